/-
  StorePlays: what is so behind so many moves.
  The statement StorePlays, walked: both stores, move by move.
-/
import Derived.Test.YtncnojgemmcplaaGreatDoorStBZ
import Derived.Test.YtncnojgemmcplaaGreatDoorDwMZ
import Derived.Test.YtncnojgemmcplaaGreatDoorDxEZ
import Derived.Test.YtncnojgemmcplaaGreatDoorAsZ
import Derived.Deep.RegionHeld3
namespace Go.Proofs.YtncnojgemmcplaaGreatDoor.St.Dc
open Go.RowKit

theorem runS_take {S : Sto} {l : List Mvs} {i : Nat} (hi : i < l.length) : runS S (l.take (i + 1)) = playS (runS S (l.take i)) l[i] := by
  unfold runS
  rw [List.take_succ_eq_append_getElem hi, List.foldl_append]
  rfl
/-- What is so behind b moves. -/
structure FcS (P : Pst) (S : Sto) (b : Nat) : Prop where
  sim : Sim P S
  inv : PInv P (2 * b)
  dinv : DInv S b
  room : RoomS S
section
variable {P : Pst} {S : Sto} {b : Nat}
theorem FcS.step (h : FcS P S b) (hb : b < 4000) (m : Mvs) : FcS (playP P m) (playS S m) (b + 1) ∧ playC P m = playE S m := by
  refine ⟨⟨(h.sim.play m).2, h.inv.play (by omega) m, ?_, h.room.play h.sim.toS m⟩, (h.sim.play m).1⟩
  have := h.dinv.play m
  rw [Int.natCast_add]
  exact this
theorem FcS.wait (h : FcS P S b) : P.mails.length = S.mails.length := h.sim.ml.1
theorem FcS.k (h : FcS P S b) : S.k = P.k := h.sim.k
theorem FcS.dlv (h : FcS P S b) (hb : b ≤ 500) : DlvOk S := by
  refine ⟨by rw [h.sim.n]; exact h.inv.n7, by rw [h.sim.k]; exact h.inv.k8, fun c _ => ?_, fun x hx => ?_⟩
  · obtain ⟨⟨r0, r1⟩, hc, k0, k1⟩ := h.dinv.cl c
    exact ⟨⟨r0, by omega⟩, by omega, k0, by omega⟩
  · obtain ⟨i, hi⟩ := List.mem_iff_getElem?.1 hx
    obtain ⟨m0, m1⟩ := h.dinv.ml x hx
    rcases h.sim.pair i with ⟨_, e⟩ | ⟨m, y, _, e, h1, h2, _⟩
    · rw [e] at hi; cases hi
    · rw [e] at hi
      cases hi
      rw [h1.tt, h1.key, h.sim.n, h.sim.k]
      exact ⟨fun _ => ⟨h2.tt.1, h2.key.1, h2.key.2⟩, fun _ => h2.tt.2, m0, by omega⟩
end
end Go.Proofs.YtncnojgemmcplaaGreatDoor.St.Dc

namespace Go.Proofs.YtncnojgemmcplaaGreatDoor.St.Dc
open Go.RowKit

def mkEv (x : Sn) : Ev := ⟨x.proc, x.typ, x.key, if x.write then 2 else 1, x.a, 0, x.res⟩
theorem mkEv_cells : ∀ (l : List Sn), evCs (l.map evp) = evCells (l.map mkEv)
  | [] => rfl
  | x :: l => by
    have := mkEv_cells l
    simp only [evCs, evCells, List.map_cons, List.flatMap_cons] at this ⊢
    rw [this]
    rfl
theorem snCs_cells : ∀ (l : List Sn), snCs l = evCells (l.map mkEv)
  | [] => rfl
  | x :: l => by
    have := snCs_cells l
    simp only [snCs, evCells, List.map_cons, List.flatMap_cons] at this ⊢
    rw [this]
    rfl
theorem DoR.rebase {w1 w6 W : World} {K : DoK} {S : Sto} (h : DoR w6 W K S) (hb : Below w1.heap.size w1 w6) : DoR w1 W K S := by
  have hz := hb.size
  refine ⟨belJ hb h.bel, fun p hp => ?_, h.lk, h.dc⟩
  have f := h.facts p hp
  cases p with
  | B => exact ⟨f.1, Nat.le_trans hz f.2⟩
  | C => exact ⟨f.1, f.2.1, Nat.le_trans hz f.2.2⟩
  | M => exact ⟨f.1, Nat.le_trans hz f.2⟩
  | vm => exact own_mono f hz
  | vl => exact own_mono f hz
  | ve => exact own_mono f hz
  | vs => exact own_mono f hz
  | cv i => exact own_mono f hz
set_option maxRecDepth 100000 in
theorem waitP_any {w0 W : World} {K : StK} {P : Pst} (h : StoP w0 W K P) : Calls Tryz.prog 11 #[.pointer (some ⟨K.B, 0, none⟩)] W fun e w' => e = .returned (.int .i64 (P.mails.length : Int)) ∧ w' = W := by
  have HN := hideIt (pwait_any _ _ _ _ _ _ _ h.net)
  clear h
  go_enter Tryz.func11, Tryz.ntmps11
  go_wp2_with fail
  refine HN.out.mono ?_
  rintro e w' ⟨rfl, rfl⟩
  go_wp2
  go_ret
  exact ⟨rfl, rfl⟩
/-- What the two blocks of the statement's own hold. -/
def Loc (b9 b2 : Nat) (m : Mvs) (n k ask tell : Int) (back : Bool) (Z : World) : Prop := Z.heap[b9]? = some (.cells #[.int .i64 m.what, .int .i64 m.a, .int .i64 m.b, .int .i64 m.c] 35) ∧ Z.heap[b2]? = some (.cells #[.int .i64 n, .int .i64 k, .int .i64 ask, .int .i64 tell, .bool back] 23)
theorem Loc.cells {b9 b2 : Nat} {m : Mvs} {n k ask tell : Int} {back : Bool} {Z : World} (h : Loc b9 b2 m n k ask tell back Z) : (Z.cell? ⟨b9, 0, none⟩ = some (.int .i64 m.what) ∧ Z.cell? ⟨b9, 1, none⟩ = some (.int .i64 m.a) ∧ Z.cell? ⟨b9, 2, none⟩ = some (.int .i64 m.b) ∧ Z.cell? ⟨b9, 3, none⟩ = some (.int .i64 m.c)) ∧ Z.cell? ⟨b2, 0, none⟩ = some (.int .i64 n) := by
  have h1 := fun i => cell_of_row Z b9 i _ 35 _ h.1
  have h2 := fun i => cell_of_row Z b2 i _ 23 _ h.2
  exact ⟨⟨by rw [h1]; rfl, by rw [h1]; rfl, by rw [h1]; rfl, by rw [h1]; rfl⟩, by rw [h2]; rfl⟩
theorem Loc.below {b9 b2 : Nat} {m : Mvs} {n k ask tell : Int} {back : Bool} {Z Z' : World} (h : Loc b9 b2 m n k ask tell back Z) (hb : Below Z.heap.size Z Z') : Loc b9 b2 m n k ask tell back Z' := ⟨(hb.block _ (lt_of_heap h.1)).trans h.1, (hb.block _ (lt_of_heap h.2)).trans h.2⟩
theorem Loc.keep {b9 b2 : Nat} {m : Mvs} {n k ask tell : Int} {back : Bool} {Z Z' : World} (h : Loc b9 b2 m n k ask tell back Z) (hk : ∀ b, b < Z.heap.size → (tagD Z.heap[b]? = 36 ∨ tagD Z.heap[b]? = 24) → Z'.heap[b]? = Z.heap[b]?) : Loc b9 b2 m n k ask tell back Z' :=
  ⟨(hk _ (lt_of_heap h.1) (.inl (by rw [h.1]; rfl))).trans h.1, (hk _ (lt_of_heap h.2) (.inr (by rw [h.2]; rfl))).trans h.2⟩
set_option maxRecDepth 100000 in
set_option maxHeartbeats 16000000 in
theorem plays_walk (n k ask tell : Int) (back : Bool) (l : List Mvs) (a : Option Addr) (cap : Nat) (w : World) (hm : MvsQ w a l) (hG : GlE w) : Calls Tryz.prog 3 #[.agg #[.int .i64 n, .int .i64 k, .int .i64 ask, .int .i64 tell, .bool back], .slice a l.length cap] w fun e w' => e = .returned (.bool true) ∧ Below w.heap.size w w' := by
  have hB0 := belA (Below.refl w.heap.size w) (.cells #[.int .i64 n, .int .i64 k, .int .i64 ask, .int .i64 tell, .bool back] 23)
  have HB0 := hideIt hB0
  by_cases h300 : 300 < l.length
  · have hd : decide ((l.length : Int) > 300) = true := decide_eq_true (by omega)
    clear h300 hm hG hB0
    go_enter Tryz.func3, Tryz.ntmps3
    go_wp2
    go_ret
    exact ⟨rfl, HB0.out⟩
  have hd : decide ((l.length : Int) > 300) = false := decide_eq_false (by omega)
  by_cases hc : ¬ checkC n k ask tell = 0
  · have HC : Hid (∀ Z, Calls Tryz.prog 5 #[.agg #[.int .i64 n, .int .i64 k, .int .i64 ask, .int .i64 tell, .bool back]] Z fun e w' => e = .returned (.iface 38 (.int .i64 (checkC n k ask tell))) ∧ Below Z.heap.size Z w') := fun Z => by
      have := check_any n k ask tell back Z
      unfold toldE at this
      rw [if_neg hc] at this
      exact this
    generalize checkC n k ask tell = c at *
    clear hc hm hG h300 hB0
    go_enter Tryz.func3, Tryz.ntmps3
    go_wp2_with fail
    refine (HC.out _).mono ?_
    rintro e W2 ⟨rfl, hb2⟩
    have HB2 := hideIt (belJ HB0.out hb2)
    clear hb2 HC
    go_wp2
    go_ret
    exact ⟨rfl, HB2.out⟩
  replace hc : checkC n k ask tell = 0 := Classical.not_not.1 hc
  obtain ⟨hn, hk, ha, ht⟩ := checkC_ok hc
  obtain ⟨n, rfl⟩ : ∃ x : Nat, n = x := ⟨n.toNat, by omega⟩
  obtain ⟨k, rfl⟩ : ∃ x : Nat, k = x := ⟨k.toNat, by omega⟩
  obtain ⟨ask, rfl⟩ : ∃ x : Nat, ask = x := ⟨ask.toNat, by omega⟩
  obtain ⟨tell, rfl⟩ : ∃ x : Nat, tell = x := ⟨tell.toNat, by omega⟩
  have HC : Hid (∀ Z, Calls Tryz.prog 5 #[.agg #[.int .i64 (n : Int), .int .i64 (k : Int), .int .i64 (ask : Int), .int .i64 (tell : Int), .bool back]] Z fun e w' => e = .returned .nilIface ∧ Below Z.heap.size Z w') := fun Z => by
    have := check_any (n : Int) (k : Int) (ask : Int) (tell : Int) back Z
    rw [hc] at this
    exact this
  have HNw : Hid (∀ Z, Calls Tryz.prog 6 #[.agg #[.int .i64 (n : Int), .int .i64 (k : Int), .int .i64 (ask : Int), .int .i64 (tell : Int), .bool back]] Z fun e w' => ∃ B N C, e = .returned (.tuple #[.pointer (some ⟨B, 0, none⟩), .nilIface]) ∧ StoP Z w' (stK0 B N C) (pst0 n k ask tell back)) := fun Z => (new_any n k (ask : Int) (tell : Int) back Z hc).mono fun e w' ⟨B, N, C, h1, h2⟩ => ⟨B, N, C, h1, sto_new h2⟩
  have HNd : Hid (∀ Z, Calls Tryz.prog 7 #[.agg #[.int .i64 (n : Int), .int .i64 (k : Int), .int .i64 (ask : Int), .int .i64 (tell : Int), .bool back]] Z (NewTold n k ask tell back Z)) := fun Z => newD_any n k ask tell back (by omega) Z
  have HF : Hid (∀ i, i ≤ l.length → FcS (runP (pst0 n k ask tell back) (l.take i)) (runS (sto0 n k ask tell back) (l.take i)) i) := by
    intro i
    induction i with
    | zero =>
      intro _
      refine ⟨sim0 back (by omega) (by omega) (by omega), pinv0 back (by omega) (by omega) (by omega), dinv0 n k ask tell back, ?_⟩
      have : busyN (sto0 n k ask tell back) = 0 := by
        unfold busyN
        exact List.countP_eq_zero.2 fun j _ => by simp [sto0, cl0]
      show RoomS (sto0 n k ask tell back)
      unfold RoomS
      rw [this]
      exact Nat.zero_le _
    | succ i ih =>
      intro hi
      rw [runP_take (by omega), runS_take (by omega)]
      exact ((ih (by omega)).step (by omega) _).1
  have HM := hideIt hm
  have HG := hideIt hG
  have hcell := fun i => cell_of_row (w.alloc (.cells #[.int .i64 (n : Int), .int .i64 (k : Int), .int .i64 (ask : Int), .int .i64 (tell : Int), .bool back] 23)) w.heap.size i _ 23 _ (heap_alloc_new w _)
  have HA : Hid (∀ Z, Below (w.alloc (.cells #[.int .i64 (n : Int), .int .i64 (k : Int), .int .i64 (ask : Int), .int .i64 (tell : Int), .bool back] 23)).heap.size (w.alloc (.cells #[.int .i64 (n : Int), .int .i64 (k : Int), .int .i64 (ask : Int), .int .i64 (tell : Int), .bool back] 23)) Z → (Z.heap[w.heap.size]? = some (.cells #[.int .i64 (n : Int), .int .i64 (k : Int), .int .i64 (ask : Int), .int .i64 (tell : Int), .bool back] 23)) ∧ Z.cell? ⟨w.heap.size, 0, none⟩ = some (.int .i64 (n : Int)) ∧ Z.cell? ⟨w.heap.size, 1, none⟩ = some (.int .i64 (k : Int)) ∧ Z.cell? ⟨w.heap.size, 2, none⟩ = some (.int .i64 (ask : Int)) ∧ Z.cell? ⟨w.heap.size, 3, none⟩ = some (.int .i64 (tell : Int)) ∧ Z.cell? ⟨w.heap.size, 4, none⟩ = some (.bool back)) := fun Z hZ => by
    have hblk := (hZ.block w.heap.size (by simp)).trans (heap_alloc_new w (.cells #[.int .i64 (n : Int), .int .i64 (k : Int), .int .i64 (ask : Int), .int .i64 (tell : Int), .bool back] 23))
    exact ⟨hblk, by rw [cell_of_row _ _ _ _ 23 _ hblk]; rfl, by rw [cell_of_row _ _ _ _ 23 _ hblk]; rfl, by rw [cell_of_row _ _ _ _ 23 _ hblk]; rfl, by rw [cell_of_row _ _ _ _ 23 _ hblk]; rfl, by rw [cell_of_row _ _ _ _ 23 _ hblk]; rfl⟩
  have h300' : l.length ≤ 300 := by omega
  have hk8 : k ≤ 8 := by omega
  clear hc hn hk ha ht hm hG h300 hB0 hcell
  obtain ⟨w1, hw1⟩ : ∃ w1, w.alloc (.cells #[.int .i64 (n : Int), .int .i64 (k : Int), .int .i64 (ask : Int), .int .i64 (tell : Int), .bool back] 23) = w1 := ⟨_, rfl⟩
  rw [hw1] at HB0 HA
  obtain ⟨-, a0, a1, a2, a3, a4⟩ := HA.out w1 (Below.refl _ _)
  go_enter Tryz.func3, Tryz.ntmps3
  go_wp2_with fail
  clear hw1 a0 a1 a2 a3 a4
  refine (HC.out _).mono ?_
  rintro e W2 ⟨rfl, hb2⟩
  obtain ⟨-, a0, a1, a2, a3, a4⟩ := HA.out W2 hb2
  have HB2 := hideIt hb2
  clear hb2 HC
  go_wp2_with fail
  refine (HNw.out _).mono ?_
  rintro e W3 ⟨B, N, C, rfl, hS⟩
  have HS := hideIt hS
  have hb3 := belJ HB2.out hS.bel
  obtain ⟨-, a0, a1, a2, a3, a4⟩ := HA.out W3 hb3
  have HB3 := hideIt hb3
  clear hS hb3 HNw
  go_wp2_with fail
  refine (HNd.out _).mono ?_
  rintro e W4 ⟨Bd, Cd, Md, rfl, hR, hL⟩
  clear a0 a1 a2 a3 a4 HNd
  have HBo : Hid (∃ Kp Kd, Both W2 W4 Kp Kd (runP (pst0 n k ask tell back) (l.take 0)) (runS (sto0 n k ask tell back) (l.take 0)) ∧ Kp.B = B ∧ Kd.B = Bd ∧ Kd.lt.length ≤ 7 * 0) := ⟨stK0 B N C, doK0 Bd Cd Md, ⟨HS.out.below hR.bel, hR.rebase HS.out.bel, hL, fun i j b _ _ e => by cases e⟩, rfl, rfl, Nat.le_refl _⟩
  clear hR hL HS
  generalize pst0 n k ask tell back = P0 at *
  generalize sto0 n k ask tell back = S0 at *
  go_wp2
  go_loopw [8] (fun v wr => ∃ i Kp Kd, i ≤ l.length ∧ v = .int .i64 (i : Nat) ∧ Both W2 wr Kp Kd (runP P0 (l.take i)) (runS S0 (l.take i)) ∧ Kp.B = B ∧ Kd.B = Bd ∧ Kd.lt.length ≤ 7 * i) (fun v _ => l.length - (intOf v).toNat)
  case atStart =>
    obtain ⟨Kp, Kd, h1, h2, h3, h4⟩ := HBo.out
    exact ⟨0, Kp, Kd, Nat.zero_le _, rfl, h1, h2, h3, h4⟩
  case round =>
    clear HBo HB3 W3 W4
    obtain ⟨i, Kp, Kd, hi, rfl, hBo, rfl, rfl, hlt⟩ := hrel
    have HBo := hideIt hBo
    clear hBo
    have hbw : Below w1.heap.size w1 wr := belJ HB2.out HBo.out.p.bel
    have HBw := hideIt hbw
    by_cases hil : i < l.length
    · have hil' : (i : Int) < (l.length : Int) := by omega
      obtain ⟨g, off, rfl, hg, q0, q1, q2, q3⟩ := (HM.out.below (belJ HB0.out hbw)).at hil
      have HTp : Hid (runP P0 (l.take (i + 1)) = playP (runP P0 (l.take i)) l[i]) := runP_take hil
      have HTs : Hid (runS S0 (l.take (i + 1)) = playS (runS S0 (l.take i)) l[i]) := runS_take hil
      have hFi := HF.out i hi
      have hFn := HF.out (i + 1) (by omega)
      rw [HTp.out, HTs.out] at hFn
      have hcode := (hFi.step (by omega) l[i]).2
      generalize l[i] = m at *
      generalize hP : runP P0 (l.take i) = P at *
      generalize hS : runS S0 (l.take i) = S at *
      clear hP hS hg
      have hB5 : Below wr.heap.size wr (wr.alloc (.cells #[.int .i64 m.what, .int .i64 m.a, .int .i64 m.b, .int .i64 m.c] 35)) := belA (Below.refl _ _) _
      have HLo : Hid (Loc wr.heap.size w.heap.size m n k ask tell back (wr.alloc (.cells #[.int .i64 m.what, .int .i64 m.a, .int .i64 m.b, .int .i64 m.c] 35))) := ⟨heap_alloc_new wr _, (HA.out _ (belJ hbw hB5)).1⟩
      have HPl : Hid (∀ Z, Below (wr.alloc (.cells #[.int .i64 m.what, .int .i64 m.a, .int .i64 m.b, .int .i64 m.c] 35)).heap.size (wr.alloc (.cells #[.int .i64 m.what, .int .i64 m.a, .int .i64 m.b, .int .i64 m.c] 35)) Z → Calls Tryz.prog 9 #[.pointer (some ⟨Kp.B, 0, none⟩), .agg #[.int .i64 m.what, .int .i64 m.a, .int .i64 m.b, .int .i64 m.c]] Z fun e w' => e = .returned (toldV (playE S m)) ∧ ∃ Kp', Both W2 w' Kp' Kd (playP P m) S ∧ Kp'.B = Kp.B ∧ Loc wr.heap.size w.heap.size m n k ask tell back w') := fun Z hZ => by
        have h1 := HBo.out.below (belJ hB5 hZ)
        refine (play_any h1.p hFi.inv m).mono ?_
        rintro e w' ⟨rfl, hT⟩
        obtain ⟨Kp', a1, a2, a3, a4⟩ := h1.prog hT (by rw [← hFn.k, ← hFi.k]; exact (play_same S m).2.1)
        exact ⟨by rw [hcode]; rfl, Kp', a1, a2, (HLo.out.below hZ).keep a3⟩
      have HMo : Hid (∀ Z Kp', Both W2 Z Kp' Kd (playP P m) S → Loc wr.heap.size w.heap.size m n k ask tell back Z → Calls Tryz.prog 10 #[.pointer (some ⟨Kd.B, 0, none⟩), .agg #[.int .i64 m.what, .int .i64 m.a, .int .i64 m.b, .int .i64 m.c], .int .i64 (n : Int)] Z fun e w' => e = .returned (.int .i64 (playE S m)) ∧ ∃ Kd', Both W2 w' Kp' Kd' (playP P m) (playS S m) ∧ Kd'.B = Kd.B ∧ Kd'.lt.length ≤ 7 * (i + 1) ∧ Loc wr.heap.size w.heap.size m n k ask tell back w') := fun Z Kp' h1 hl => by
        have hr := hFi.room
        unfold RoomS at hr
        refine (moveD_any h1.d h1.pl (hFi.dlv (by omega)) (by rw [hFi.sim.n]; exact hFi.inv.n1) (by omega) (by rw [← h1.pl.len, ← hFi.wait]; exact hFi.inv.ml) (by omega) m (n : Int)).mono ?_
        rintro e w' ⟨rfl, hT⟩
        obtain ⟨Kd', a1, a2, a3, a4, a5⟩ := h1.doc hT (play_same S m).2.1
        exact ⟨rfl, Kd', a1, a2, by omega, hl.keep a4⟩
      have HBa : Hid (∀ (c : Int) (Z : World), Below w1.heap.size w1 Z → Calls Tryz.prog 8 #[toldV c, .int .i64 c] Z fun e w' => e = .returned (.bool true) ∧ Below Z.heap.size Z w') := fun c Z hZ => bare_any c Z (HG.out.below (belJ HB0.out hZ))
      have HWa : Hid (∀ Z Kp' Kd', Both W2 Z Kp' Kd' (playP P m) (playS S m) → Kp'.B = Kp.B → Calls Tryz.prog 11 #[.pointer (some ⟨Kp.B, 0, none⟩)] Z fun e w' => e = .returned (.int .i64 ((playS S m).mails.length : Int)) ∧ w' = Z) := fun Z Kp' Kd' h1 he => by
        rw [← he, ← hFn.wait]
        exact waitP_any h1.p
      have HWd : Hid (∀ Z Kp' Kd', Both W2 Z Kp' Kd' (playP P m) (playS S m) → Kd'.B = Kd.B → Calls Tryz.prog 12 #[.pointer (some ⟨Kd.B, 0, none⟩)] Z fun e w' => e = .returned (.int .i64 ((playS S m).mails.length : Int)) ∧ w' = Z) := fun Z Kp' Kd' h1 he => by
        rw [← he]
        exact waiting_any h1.d h1.pl
      have HFr : Hid (∀ Z Kp' Kd', Both W2 Z Kp' Kd' (playP P m) (playS S m) → Kp'.B = Kp.B → Calls Tryz.prog 13 #[.pointer (some ⟨Kp.B, 0, none⟩), .int .i64 m.a] Z fun e w' => e = .returned (toldV (freeE (playS S m) m.a)) ∧ Below Z.heap.size Z w') := fun Z Kp' Kd' h1 he => by
        have hl : (playP P m).evs.length ≤ 9000 := by have := hFn.inv.ev; omega
        refine (he ▸ free_any h1.p hFn.inv.k8 hl m.a : Calls Tryz.prog 13 #[.pointer (some ⟨Kp.B, 0, none⟩), .int .i64 m.a] Z _).mono ?_
        rintro e w' ⟨rfl, hb⟩
        exact ⟨by rw [hFn.sim.free]; rfl, hb⟩
      have HFd : Hid (∀ Z Kp' Kd', Both W2 Z Kp' Kd' (playP P m) (playS S m) → Kd'.B = Kd.B → Calls Tryz.prog 14 #[.pointer (some ⟨Kd.B, 0, none⟩), .int .i64 m.a] Z fun e w' => e = .returned (.int .i64 (freeE (playS S m) m.a)) ∧ Below Z.heap.size Z w') := fun Z Kp' Kd' h1 he => by
        have hr := hFn.room
        unfold RoomS at hr
        rw [← he]
        exact freeD_any h1.d (by rw [hFn.sim.k]; exact hFn.inv.k8) (by omega) m.a
      clear hFi hFn hcode hB5 hbw
      generalize freeE (playS S m) m.a = fr at *
      generalize (playS S m).mails.length = L at *
      generalize playE S m = ce at *
      go_upto_region 11 with fail
      clear q0 q1 q2 q3
      refine wp_region_held_drew (S := Loc wr.heap.size w.heap.size m n k ask tell back) (by kernel_rfl) ?_ (fun hHeld => ?_)
      · exact HLo.out.below (bel_drewN (Below.refl _ _) 1)
      refine wpAnyH_take (i := 0) (v := ?_) rfl (by kernel_rfl) (by kernel_rfl) (by kernel_rfl) (fun _ _ _ h => h) (Or.inl ⟨by rfl, ?_⟩) (by assumption) ?_
      rotate_left 1
      · intro wz hwz
        go_simp
        all_goals with_reducible rfl
      simp only [Act.put, List.setIfInBounds_toArray, List.set_cons_zero, List.set_cons_succ, List.getElem_toArray, List.getElem_cons_zero]
      refine wpAnyH_take (i := 1) (v := ?_) rfl (by kernel_rfl) (by kernel_rfl) (by kernel_rfl) (fun _ _ _ h => h) (Or.inl ⟨by rfl, ?_⟩) (by assumption) ?_
      rotate_left 1
      · intro wz hwz
        obtain ⟨⟨z0, z1, z2, z3⟩, z4⟩ := Loc.cells hwz
        go_simp
        all_goals with_reducible rfl
      simp only [Act.put, List.setIfInBounds_toArray, List.set_cons_zero, List.set_cons_succ, List.getElem_toArray, List.getElem_cons_zero, List.getElem_cons_succ]
      refine wpAnyH_take (i := 3) (v := ?_) rfl (by kernel_rfl) (by kernel_rfl) (by kernel_rfl) (fun _ _ _ h => h) (Or.inl ⟨by rfl, ?_⟩) (by assumption) ?_
      rotate_left 1
      · intro wz hwz
        go_simp
        all_goals with_reducible rfl
      simp only [Act.put, List.setIfInBounds_toArray, List.set_cons_zero, List.set_cons_succ, List.getElem_toArray, List.getElem_cons_zero, List.getElem_cons_succ]
      refine wpAnyH_take (i := 4) (v := ?_) rfl (by kernel_rfl) (by kernel_rfl) (by kernel_rfl) (fun _ _ _ h => h) (Or.inl ⟨by rfl, ?_⟩) (by assumption) ?_
      rotate_left 1
      · intro wz hwz
        obtain ⟨⟨z0, z1, z2, z3⟩, z4⟩ := Loc.cells hwz
        go_simp
        all_goals with_reducible rfl
      simp only [Act.put, List.setIfInBounds_toArray, List.set_cons_zero, List.set_cons_succ, List.getElem_toArray, List.getElem_cons_zero, List.getElem_cons_succ]
      refine wpAnyH_take (i := 5) (v := ?_) rfl (by kernel_rfl) (by kernel_rfl) (by kernel_rfl) (fun _ _ _ h => h) (Or.inl ⟨by rfl, ?_⟩) (by assumption) ?_
      rotate_left 1
      · intro wz hwz
        go_simp
        all_goals with_reducible rfl
      simp only [Act.put, List.setIfInBounds_toArray, List.set_cons_zero, List.set_cons_succ, List.getElem_toArray, List.getElem_cons_zero, List.getElem_cons_succ]
      refine wpAnyH_take (i := 6) (v := ?_) rfl (by kernel_rfl) (by kernel_rfl) (by kernel_rfl) (fun _ _ _ h => h) (Or.inl ⟨by rfl, ?_⟩) (by assumption) ?_
      rotate_left 1
      · intro wz hwz
        obtain ⟨⟨z0, z1, z2, z3⟩, z4⟩ := Loc.cells hwz
        go_simp
        all_goals with_reducible rfl
      simp only [Act.put, List.setIfInBounds_toArray, List.set_cons_zero, List.set_cons_succ, List.getElem_toArray, List.getElem_cons_zero, List.getElem_cons_succ]
      refine wpAnyH_ready (rs := [2]) (by kernel_rfl) (by simp) (AllReadyH.cons rfl (fun K hK => ?_) AllReadyH.nil)
      go_simp
      refine (HPl.out _ ?_).mono ?_
      · exact bel_drewN (Below.refl _ _) 1
      rintro x V3 ⟨rfl, Kp3, hB3, e3, hL3⟩
      have HB3 := hideIt hB3
      have HL3 := hideIt hL3
      clear hB3 hL3 HPl HLo
      refine hK.out _ _ ?_ (fun hHeld => ?_)
      · exact HL3.out
      clear hK K
      refine wpAnyH_ready (rs := [7]) (by kernel_rfl) (by simp) (AllReadyH.cons rfl (fun K hK => ?_) AllReadyH.nil)
      go_simp
      refine (HMo.out _ _ HB3.out HL3.out).mono ?_
      rintro x V4 ⟨rfl, Kd4, hB4, e4, l4, hL4⟩
      have HB4 := hideIt hB4
      have HL4 := hideIt hL4
      clear hB4 hL4 HMo HB3 HL3
      refine hK.out _ _ ?_ (fun hHeld => ?_)
      · exact HL4.out
      clear hK K
      refine wpAnyH_ready (rs := [8]) (by kernel_rfl) (by simp) (AllReadyH.cons rfl (fun K hK => ?_) AllReadyH.nil)
      go_simp
      refine (HBa.out _ _ (belJ HB2.out HB4.out.p.bel)).mono ?_
      rintro x V5 ⟨rfl, hb5⟩
      have HB5 := hideIt (HB4.out.below hb5)
      have HL5 := hideIt (HL4.out.below hb5)
      clear hb5 HB4 HL4
      refine hK.out _ _ ?_ (fun hHeld => ?_)
      · exact HL5.out
      clear hK K
      refine wpAnyH_take (i := 9) (v := ?_) rfl (by kernel_rfl) (by kernel_rfl) (by kernel_rfl) (fun _ _ _ h => h) (Or.inl ⟨by rfl, ?_⟩) (by assumption) ?_
      rotate_left 1
      · intro wz hwz
        go_simp
        all_goals with_reducible rfl
      simp only [Act.put, List.setIfInBounds_toArray, List.set_cons_zero, List.set_cons_succ, List.getElem_toArray, List.getElem_cons_zero, List.getElem_cons_succ]
      refine wpAnyH_take (i := 10) (v := ?_) rfl (by kernel_rfl) (by kernel_rfl) (by kernel_rfl) (fun _ _ _ h => h) (Or.inl ⟨by rfl, ?_⟩) (by assumption) ?_
      rotate_left 1
      · intro wz hwz
        go_simp
        all_goals with_reducible rfl
      simp only [Act.put, List.setIfInBounds_toArray, List.set_cons_zero, List.set_cons_succ, List.getElem_toArray, List.getElem_cons_zero, List.getElem_cons_succ]
      refine wpAnyH_take (i := 11) (v := ?_) rfl (by kernel_rfl) (by kernel_rfl) (by kernel_rfl) (fun _ _ _ h => h) (Or.inl ⟨by rfl, ?_⟩) (by assumption) ?_
      rotate_left 1
      · intro wz hwz
        go_simp
        all_goals with_reducible rfl
      simp only [Act.put, List.setIfInBounds_toArray, List.set_cons_zero, List.set_cons_succ, List.getElem_toArray, List.getElem_cons_zero, List.getElem_cons_succ]
      refine wpAnyH_take (i := 13) (v := ?_) rfl (by kernel_rfl) (by kernel_rfl) (by kernel_rfl) (fun _ _ _ h => h) (Or.inl ⟨by rfl, ?_⟩) (by assumption) ?_
      rotate_left 1
      · intro wz hwz
        go_simp
        all_goals with_reducible rfl
      simp only [Act.put, List.setIfInBounds_toArray, List.set_cons_zero, List.set_cons_succ, List.getElem_toArray, List.getElem_cons_zero, List.getElem_cons_succ]
      refine wpAnyH_ready (rs := [12]) (by kernel_rfl) (by simp) (AllReadyH.cons rfl (fun K hK => ?_) AllReadyH.nil)
      go_simp
      refine (HWa.out _ _ _ HB5.out e3).mono ?_
      rintro x V6 ⟨rfl, rfl⟩
      refine hK.out _ _ ?_ (fun hHeld => ?_)
      · exact HL5.out
      clear hK K
      refine wpAnyH_ready (rs := [14]) (by kernel_rfl) (by simp) (AllReadyH.cons rfl (fun K hK => ?_) AllReadyH.nil)
      go_simp
      refine (HWd.out _ _ _ HB5.out e4).mono ?_
      rintro x V7 ⟨rfl, rfl⟩
      refine hK.out _ _ ?_ (fun hHeld => ?_)
      · exact HL5.out
      clear hK K
      refine wpAnyH_take (i := 15) (v := ?_) rfl (by kernel_rfl) (by kernel_rfl) (by kernel_rfl) (fun _ _ _ h => h) (Or.inl ⟨by rfl, ?_⟩) (by assumption) ?_
      rotate_left 1
      · intro wz hwz
        go_simp
        all_goals with_reducible rfl
      simp only [Act.put, List.setIfInBounds_toArray, List.set_cons_zero, List.set_cons_succ, List.getElem_toArray, List.getElem_cons_zero, List.getElem_cons_succ]
      refine wpAnyH_take (i := 16) (v := ?_) rfl (by kernel_rfl) (by kernel_rfl) (by kernel_rfl) (fun _ _ _ h => h) (Or.inl ⟨by rfl, ?_⟩) (by assumption) ?_
      rotate_left 1
      · intro wz hwz
        go_simp
        all_goals with_reducible rfl
      simp only [Act.put, List.setIfInBounds_toArray, List.set_cons_zero, List.set_cons_succ, List.getElem_toArray, List.getElem_cons_zero, List.getElem_cons_succ]
      refine wpAnyH_take (i := 17) (v := ?_) rfl (by kernel_rfl) (by kernel_rfl) (by kernel_rfl) (fun _ _ _ h => h) (Or.inl ⟨by rfl, ?_⟩) (by assumption) ?_
      rotate_left 1
      · intro wz hwz
        go_simp
        all_goals with_reducible rfl
      simp only [Act.put, List.setIfInBounds_toArray, List.set_cons_zero, List.set_cons_succ, List.getElem_toArray, List.getElem_cons_zero, List.getElem_cons_succ]
      refine wpAnyH_take (i := 18) (v := ?_) rfl (by kernel_rfl) (by kernel_rfl) (by kernel_rfl) (fun _ _ _ h => h) (Or.inl ⟨by rfl, ?_⟩) (by assumption) ?_
      rotate_left 1
      · intro wz hwz
        go_simp
        all_goals with_reducible rfl
      simp only [Act.put, List.setIfInBounds_toArray, List.set_cons_zero, List.set_cons_succ, List.getElem_toArray, List.getElem_cons_zero, List.getElem_cons_succ]
      refine wpAnyH_take (i := 19) (v := ?_) rfl (by kernel_rfl) (by kernel_rfl) (by kernel_rfl) (fun _ _ _ h => h) (Or.inl ⟨by rfl, ?_⟩) (by assumption) ?_
      rotate_left 1
      · intro wz hwz
        go_simp
        all_goals with_reducible rfl
      simp only [Act.put, List.setIfInBounds_toArray, List.set_cons_zero, List.set_cons_succ, List.getElem_toArray, List.getElem_cons_zero, List.getElem_cons_succ]
      refine wpAnyH_take (i := 20) (v := ?_) rfl (by kernel_rfl) (by kernel_rfl) (by kernel_rfl) (fun _ _ _ h => h) (Or.inl ⟨by rfl, ?_⟩) (by assumption) ?_
      rotate_left 1
      · intro wz hwz
        obtain ⟨⟨z0, z1, z2, z3⟩, z4⟩ := Loc.cells hwz
        go_simp
        all_goals with_reducible rfl
      simp only [Act.put, List.setIfInBounds_toArray, List.set_cons_zero, List.set_cons_succ, List.getElem_toArray, List.getElem_cons_zero, List.getElem_cons_succ]
      refine wpAnyH_take (i := 22) (v := ?_) rfl (by kernel_rfl) (by kernel_rfl) (by kernel_rfl) (fun _ _ _ h => h) (Or.inl ⟨by rfl, ?_⟩) (by assumption) ?_
      rotate_left 1
      · intro wz hwz
        go_simp
        all_goals with_reducible rfl
      simp only [Act.put, List.setIfInBounds_toArray, List.set_cons_zero, List.set_cons_succ, List.getElem_toArray, List.getElem_cons_zero, List.getElem_cons_succ]
      refine wpAnyH_take (i := 23) (v := ?_) rfl (by kernel_rfl) (by kernel_rfl) (by kernel_rfl) (fun _ _ _ h => h) (Or.inl ⟨by rfl, ?_⟩) (by assumption) ?_
      rotate_left 1
      · intro wz hwz
        go_simp
        all_goals with_reducible rfl
      simp only [Act.put, List.setIfInBounds_toArray, List.set_cons_zero, List.set_cons_succ, List.getElem_toArray, List.getElem_cons_zero, List.getElem_cons_succ]
      refine wpAnyH_take (i := 24) (v := ?_) rfl (by kernel_rfl) (by kernel_rfl) (by kernel_rfl) (fun _ _ _ h => h) (Or.inl ⟨by rfl, ?_⟩) (by assumption) ?_
      rotate_left 1
      · intro wz hwz
        obtain ⟨⟨z0, z1, z2, z3⟩, z4⟩ := Loc.cells hwz
        go_simp
        all_goals with_reducible rfl
      simp only [Act.put, List.setIfInBounds_toArray, List.set_cons_zero, List.set_cons_succ, List.getElem_toArray, List.getElem_cons_zero, List.getElem_cons_succ]
      refine wpAnyH_ready (rs := [21]) (by kernel_rfl) (by simp) (AllReadyH.cons rfl (fun K hK => ?_) AllReadyH.nil)
      go_simp
      refine (HFr.out _ _ _ HB5.out e3).mono ?_
      rintro x V8 ⟨rfl, hb8⟩
      have HB8 := hideIt (HB5.out.below hb8)
      have HL8 := hideIt (HL5.out.below hb8)
      clear hb8
      refine hK.out _ _ ?_ (fun hHeld => ?_)
      · exact HL8.out
      clear hK K
      refine wpAnyH_ready (rs := [25]) (by kernel_rfl) (by simp) (AllReadyH.cons rfl (fun K hK => ?_) AllReadyH.nil)
      go_simp
      refine (HFd.out _ _ _ HB8.out e4).mono ?_
      rintro x V9 ⟨rfl, hb9⟩
      have HB9 := hideIt (HB8.out.below hb9)
      have HL9 := hideIt (HL8.out.below hb9)
      clear hb9
      refine hK.out _ _ ?_ (fun hHeld => ?_)
      · exact HL9.out
      clear hK K
      refine wpAnyH_ready (rs := [26]) (by kernel_rfl) (by simp) (AllReadyH.cons rfl (fun K hK => ?_) AllReadyH.nil)
      go_simp
      refine (HBa.out _ _ (belJ HB2.out HB9.out.p.bel)).mono ?_
      rintro x V10 ⟨rfl, hb10⟩
      have HB10 := hideIt (HB9.out.below hb10)
      have HL10 := hideIt (HL9.out.below hb10)
      clear hb10
      refine hK.out _ _ ?_ (fun hHeld => ?_)
      · exact HL10.out
      clear hK K
      refine wpAnyH_take (i := 27) (v := ?_) rfl (by kernel_rfl) (by kernel_rfl) (by kernel_rfl) (fun _ _ _ h => h) (Or.inl ⟨by rfl, ?_⟩) (by assumption) ?_
      rotate_left 1
      · intro wz hwz
        go_simp
        all_goals with_reducible rfl
      simp only [Act.put, List.setIfInBounds_toArray, List.set_cons_zero, List.set_cons_succ, List.getElem_toArray, List.getElem_cons_zero, List.getElem_cons_succ]
      refine wpAnyH_take (i := 28) (v := ?_) rfl (by kernel_rfl) (by kernel_rfl) (by kernel_rfl) (fun _ _ _ h => h) (Or.inl ⟨by rfl, ?_⟩) (by assumption) ?_
      rotate_left 1
      · intro wz hwz
        go_simp
        all_goals with_reducible rfl
      simp only [Act.put, List.setIfInBounds_toArray, List.set_cons_zero, List.set_cons_succ, List.getElem_toArray, List.getElem_cons_zero, List.getElem_cons_succ]
      refine wpAnyH_done (by kernel_rfl) ?_ _
      go_wp2
      go_roundw
      case rel => exact ⟨i + 1, Kp3, Kd4, by omega, by go_num, by rw [HTp.out, HTs.out]; exact HB10.out, e3, e4, l4⟩
      case measure => simp [intOf]; omega
    · have hil2 : i = l.length := by omega
      have hFi := HF.out i hi
      have hd2 : ¬ (i : Int) < (l.length : Int) := by omega
      subst hil2
      generalize runP P0 (l.take l.length) = P at *
      generalize runS S0 (l.take l.length) = S at *
      have hr := hFi.room
      unfold RoomS at hr
      have he1 : P.evs = S.seen.map evp := hFi.sim.ev.1
      have he2 : P.sts = S.seen.map Sn.at_ := hFi.sim.ev.2
      have hel : P.evs.length = S.seen.length := by rw [he1, List.length_map]
      have hsl : P.sts.length = S.seen.length := by rw [he2, List.length_map]
      have HSt := hideIt (stamps_any HBo.out.p (by omega))
      have HEv : Hid (∀ Z, Below wr.heap.size wr Z → Calls Tryz.prog 17 #[.pointer (some ⟨Kp.B, 0, none⟩)] Z fun e w' => ∃ v', e = .returned v' ∧ EvQ w' v' (S.seen.map mkEv) ∧ Below Z.heap.size Z w') := fun Z hZ => by
        refine (St.events_any (HBo.out.p.below hZ) (by omega)).mono ?_
        rintro e w' ⟨v', rfl, ho, hb⟩
        refine ⟨v', rfl, ownT_evq (base := Z.heap.size) (e := 101) ?_, hb⟩
        rw [List.length_map, ← hel, ← mkEv_cells, ← he1]
        exact ho
      have hSe : W2.heap.size ≤ W2.heap.size := Nat.le_refl _
      have HSe : Hid (∀ Z, Below wr.heap.size wr Z → EvQ Z Kd.ve (S.seen.map mkEv)) := fun Z hZ => by
        have ho := (HBo.out.d.below hZ).facts .ve trivial
        refine ownT_evq (base := W2.heap.size) (e := 110) ?_
        rw [List.length_map, ← snCs_cells]
        exact ho
      have HSm : Hid (∀ Z va vb, EvQ Z va (S.seen.map mkEv) → EvQ Z vb (S.seen.map mkEv) → Calls Tryz.prog 16 #[va, vb] Z fun e w' => e = .returned (.bool true) ∧ Below Z.heap.size Z w') := fun Z va vb h1 h2 => sameEvents_true va vb _ Z h1 h2 (by rw [List.length_map]; omega)
      have hrs : ∀ Z, Below wr.heap.size wr Z → Z.ownsRow W2.heap.size 61 2 Kd.vs (S.seen.map Sn.at_).length (spCs (S.seen.map Sn.at_)) := fun Z hZ => (HBo.out.d.below hZ).facts .vs trivial
      have HRs := hideIt hrs
      have HCe : Hid (∀ Z, Below wr.heap.size wr Z → Z.cell? ⟨Kd.B, 11, none⟩ = some Kd.ve ∧ Z.cell? ⟨Kd.B, 12, none⟩ = some Kd.vs) := fun Z hZ => ⟨(HBo.out.d.below hZ).cells.2.2.2.2.2.1, (HBo.out.d.below hZ).cells.2.2.2.2.2.2⟩
      have HLe : Hid (P.sts.length = (S.seen.map Sn.at_).length ∧ P.sts = S.seen.map Sn.at_) := ⟨by rw [he2], he2⟩
      have h120 : (S.seen.map Sn.at_).length ≤ 120 := by rw [List.length_map]; omega
      have hbW := hideIt (belJ HB0.out hbw)
      clear hFi hr he1 he2 hel hsl hSe hrs hbw HM HG HA HF HBw HBo HB2 hil
      generalize S.seen.map mkEv = Le at *
      go_wp2_with fail
      refine HSt.out.mono ?_
      rintro x W5 ⟨vt, rfl, ht, hb5⟩
      rw [HLe.out.1, HLe.out.2] at ht
      generalize S.seen.map Sn.at_ = Ls at *
      clear HLe
      obtain ⟨at_, ct, rfl⟩ := ownsRow_slice ht
      obtain ⟨as_, cs_, es⟩ := ownsRow_slice (HRs.out wr (Below.refl _ _))
      have HT := hideIt ht
      have HB5 := hideIt hb5
      clear ht hb5 HSt
      rw [es] at HRs HCe
      go_upto_region 14 with fail
      refine wp_region_held_drew (S := fun Z => Below W5.heap.size W5 Z) (by kernel_rfl) (bel_drewN (Below.refl _ _) 1) (fun hHeld => ?_)
      refine wpAnyH_take (i := 0) (v := ?_) rfl (by kernel_rfl) (by kernel_rfl) (by kernel_rfl) (fun _ _ _ h => h) (Or.inl ⟨by rfl, ?_⟩) (by assumption) ?_
      rotate_left 1
      · intro wz hwz
        go_simp
        all_goals with_reducible rfl
      simp only [Act.put, List.setIfInBounds_toArray, List.set_cons_zero, List.set_cons_succ, List.getElem_toArray, List.getElem_cons_zero]
      refine wpAnyH_take (i := 2) (v := ?_) rfl (by kernel_rfl) (by kernel_rfl) (by kernel_rfl) (fun _ _ _ h => h) (Or.inl ⟨by rfl, ?_⟩) (by assumption) ?_
      rotate_left 1
      · intro wz hwz
        go_simp
        all_goals with_reducible rfl
      simp only [Act.put, List.setIfInBounds_toArray, List.set_cons_zero, List.set_cons_succ, List.getElem_toArray, List.getElem_cons_zero, List.getElem_cons_succ]
      refine wpAnyH_take (i := 3) (v := ?_) rfl (by kernel_rfl) (by kernel_rfl) (by kernel_rfl) (fun _ _ _ h => h) (Or.inl ⟨by rfl, ?_⟩) (by assumption) ?_
      rotate_left 1
      · intro wz hwz
        go_simp
        all_goals with_reducible rfl
      simp only [Act.put, List.setIfInBounds_toArray, List.set_cons_zero, List.set_cons_succ, List.getElem_toArray, List.getElem_cons_zero, List.getElem_cons_succ]
      refine wpAnyH_take (i := 4) (v := ?_) rfl (by kernel_rfl) (by kernel_rfl) (by kernel_rfl) (fun _ _ _ h => h) (Or.inl ⟨by rfl, ?_⟩) (by assumption) ?_
      rotate_left 1
      · intro wz hwz
        go_simp
        all_goals with_reducible rfl
      simp only [Act.put, List.setIfInBounds_toArray, List.set_cons_zero, List.set_cons_succ, List.getElem_toArray, List.getElem_cons_zero, List.getElem_cons_succ]
      refine wpAnyH_take (i := 5) (v := ?_) rfl (by kernel_rfl) (by kernel_rfl) (by kernel_rfl) (fun _ _ _ h => h) (Or.inl ⟨by rfl, ?_⟩) (by assumption) ?_
      rotate_left 1
      · intro wz hwz
        obtain ⟨z11, z12⟩ := HCe.out wz (belJ HB5.out hwz)
        go_simp
        all_goals with_reducible rfl
      simp only [Act.put, List.setIfInBounds_toArray, List.set_cons_zero, List.set_cons_succ, List.getElem_toArray, List.getElem_cons_zero, List.getElem_cons_succ]
      refine wpAnyH_ready (rs := [1]) (by kernel_rfl) (by simp) (AllReadyH.cons rfl (fun K hK => ?_) AllReadyH.nil)
      go_simp
      refine (HEv.out _ (belJ HB5.out (bel_drewN (Below.refl _ _) 1))).mono ?_
      rintro x W6 ⟨v6, rfl, hq6, hb6⟩
      have hb56 : Below W5.heap.size W5 W6 := belJ (bel_drewN (Below.refl _ _) 1) hb6
      have HQ6 := hideIt hq6
      have HB6 := hideIt hb56
      clear hq6 hb6 hb56
      refine hK.out _ _ ?_ (fun hHeld => ?_)
      · exact HB6.out
      clear hK K
      refine wpAnyH_ready (rs := [6]) (by kernel_rfl) (by simp) (AllReadyH.cons rfl (fun K hK => ?_) AllReadyH.nil)
      go_simp
      refine (HSm.out _ _ _ HQ6.out (HSe.out _ (belJ HB5.out HB6.out))).mono ?_
      rintro x W7 ⟨rfl, hb7⟩
      have HB7 := hideIt (belJ HB6.out hb7)
      clear hb7
      refine hK.out _ _ ?_ (fun hHeld => ?_)
      · exact HB7.out
      clear hK K
      refine wpAnyH_take (i := 7) (v := ?_) rfl (by kernel_rfl) (by kernel_rfl) (by kernel_rfl) (fun _ _ _ h => h) (Or.inl ⟨by rfl, ?_⟩) (by assumption) ?_
      rotate_left 1
      · intro wz hwz
        go_simp
        all_goals with_reducible rfl
      simp only [Act.put, List.setIfInBounds_toArray, List.set_cons_zero, List.set_cons_succ, List.getElem_toArray, List.getElem_cons_zero, List.getElem_cons_succ]
      refine wpAnyH_take (i := 8) (v := ?_) rfl (by kernel_rfl) (by kernel_rfl) (by kernel_rfl) (fun _ _ _ h => h) (Or.inl ⟨by rfl, ?_⟩) (by assumption) ?_
      rotate_left 1
      · intro wz hwz
        go_simp
        all_goals with_reducible rfl
      simp only [Act.put, List.setIfInBounds_toArray, List.set_cons_zero, List.set_cons_succ, List.getElem_toArray, List.getElem_cons_zero, List.getElem_cons_succ]
      refine wpAnyH_take (i := 9) (v := ?_) rfl (by kernel_rfl) (by kernel_rfl) (by kernel_rfl) (fun _ _ _ h => h) (Or.inl ⟨by rfl, ?_⟩) (by assumption) ?_
      rotate_left 1
      · intro wz hwz
        go_simp
        all_goals with_reducible rfl
      simp only [Act.put, List.setIfInBounds_toArray, List.set_cons_zero, List.set_cons_succ, List.getElem_toArray, List.getElem_cons_zero, List.getElem_cons_succ]
      refine wpAnyH_take (i := 10) (v := ?_) rfl (by kernel_rfl) (by kernel_rfl) (by kernel_rfl) (fun _ _ _ h => h) (Or.inl ⟨by rfl, ?_⟩) (by assumption) ?_
      rotate_left 1
      · intro wz hwz
        go_simp
        all_goals with_reducible rfl
      simp only [Act.put, List.setIfInBounds_toArray, List.set_cons_zero, List.set_cons_succ, List.getElem_toArray, List.getElem_cons_zero, List.getElem_cons_succ]
      refine wpAnyH_take (i := 11) (v := ?_) rfl (by kernel_rfl) (by kernel_rfl) (by kernel_rfl) (fun _ _ _ h => h) (Or.inl ⟨by rfl, ?_⟩) (by assumption) ?_
      rotate_left 1
      · intro wz hwz
        go_simp
        all_goals with_reducible rfl
      simp only [Act.put, List.setIfInBounds_toArray, List.set_cons_zero, List.set_cons_succ, List.getElem_toArray, List.getElem_cons_zero, List.getElem_cons_succ]
      refine wpAnyH_take (i := 12) (v := ?_) rfl (by kernel_rfl) (by kernel_rfl) (by kernel_rfl) (fun _ _ _ h => h) (Or.inl ⟨by rfl, ?_⟩) (by assumption) ?_
      rotate_left 1
      · intro wz hwz
        go_simp
        all_goals with_reducible rfl
      simp only [Act.put, List.setIfInBounds_toArray, List.set_cons_zero, List.set_cons_succ, List.getElem_toArray, List.getElem_cons_zero, List.getElem_cons_succ]
      refine wpAnyH_take (i := 13) (v := ?_) rfl (by kernel_rfl) (by kernel_rfl) (by kernel_rfl) (fun _ _ _ h => h) (Or.inl ⟨by rfl, ?_⟩) (by assumption) ?_
      rotate_left 1
      · intro wz hwz
        go_simp
        all_goals with_reducible rfl
      simp only [Act.put, List.setIfInBounds_toArray, List.set_cons_zero, List.set_cons_succ, List.getElem_toArray, List.getElem_cons_zero, List.getElem_cons_succ]
      refine wpAnyH_take (i := 14) (v := ?_) rfl (by kernel_rfl) (by kernel_rfl) (by kernel_rfl) (fun _ _ _ h => h) (Or.inl ⟨by rfl, ?_⟩) (by assumption) ?_
      rotate_left 1
      · intro wz hwz
        obtain ⟨z11, z12⟩ := HCe.out wz (belJ HB5.out hwz)
        go_simp
        all_goals with_reducible rfl
      simp only [Act.put, List.setIfInBounds_toArray, List.set_cons_zero, List.set_cons_succ, List.getElem_toArray, List.getElem_cons_zero, List.getElem_cons_succ]
      refine wpAnyH_take (i := 15) (v := ?_) rfl (by kernel_rfl) (by kernel_rfl) (by kernel_rfl) (fun _ _ _ h => h) (Or.inl ⟨by rfl, ?_⟩) (by assumption) ?_
      rotate_left 1
      · intro wz hwz
        go_simp
        all_goals with_reducible rfl
      simp only [Act.put, List.setIfInBounds_toArray, List.set_cons_zero, List.set_cons_succ, List.getElem_toArray, List.getElem_cons_zero, List.getElem_cons_succ]
      refine wpAnyH_take (i := 16) (v := ?_) rfl (by kernel_rfl) (by kernel_rfl) (by kernel_rfl) (fun _ _ _ h => h) (Or.inl ⟨by rfl, ?_⟩) (by assumption) ?_
      rotate_left 1
      · intro wz hwz
        go_simp
        all_goals with_reducible rfl
      simp only [Act.put, List.setIfInBounds_toArray, List.set_cons_zero, List.set_cons_succ, List.getElem_toArray, List.getElem_cons_zero, List.getElem_cons_succ]
      refine wpAnyH_take (i := 17) (v := ?_) rfl (by kernel_rfl) (by kernel_rfl) (by kernel_rfl) (fun _ _ _ h => h) (Or.inl ⟨by rfl, ?_⟩) (by assumption) ?_
      rotate_left 1
      · intro wz hwz
        go_simp
        all_goals with_reducible rfl
      simp only [Act.put, List.setIfInBounds_toArray, List.set_cons_zero, List.set_cons_succ, List.getElem_toArray, List.getElem_cons_zero, List.getElem_cons_succ]
      refine wpAnyH_done (by kernel_rfl) ?_ _
      generalize hwr : wr = wr9 at *
      clear hwr
      clear HEv HSm HSe HQ6 HB6
      go_wp2
      go_loopw [11] (fun v wx => ∃ j : Nat, j ≤ Ls.length ∧ v = .int .i64 (j : Nat) ∧ Below W7.heap.size W7 wx) (fun v _ => Ls.length - (intOf v).toNat)
      case atStart => exact ⟨0, Nat.zero_le _, rfl, Below.refl _ _⟩
      case round =>
        obtain ⟨j, hj, rfl, hbx⟩ := hrel
        have HX := hideIt hbx
        have hb5x := belJ HB7.out hbx
        obtain ⟨z11, z12⟩ := HCe.out wr (belJ HB5.out hb5x)
        clear hbx
        by_cases hjl : j < Ls.length
        · have hjl' : (j : Int) < (Ls.length : Int) := by omega
          have hrs := HRs.out wr (belJ HB5.out hb5x)
          have hts : wr.ownsRow wr9.heap.size 60 2 (.slice at_ Ls.length ct) Ls.length (spCs Ls) := ownsRow_same HT.out fun b hb => hb5x.block b (ownsRow_block HT.out b hb).2.1
          rcases own_cells hts with ⟨_, e⟩ | ⟨ga, ca, ea, _, _, hca⟩
          · omega
          rcases own_cells hrs with ⟨_, e⟩ | ⟨gs, cs, es', _, _, hcs⟩
          · omega
          cases ea
          cases es'
          have y0 := hca (j * 2) (by omega)
          have y1 := hca (j * 2 + 1) (by omega)
          have x0 := hcs (j * 2) (by omega)
          have x1 := hcs (j * 2 + 1) (by omega)
          have f0 := flat_at (c := spC) (m := 2) (fun _ => rfl) Ls j 0 hjl (by decide)
          have f1 := flat_at (c := spC) (m := 2) (fun _ => rfl) Ls j 1 hjl (by decide)
          have f0' : (spCs Ls)[j * 2]? = some (.int .i64 Ls[j].t) := f0
          have f1' : (spCs Ls)[j * 2 + 1]? = some (.int .i64 Ls[j].c) := f1
          rw [f0'] at y0 x0
          rw [f1'] at y1 x1
          generalize Ls[j] = p at *
          clear f0 f1 f0' f1' hca hcs hrs hts hb5x
          have hne1 : (p.t != p.t) = false := by simp
          have hne2 : (p.c != p.c) = false := by simp
          go_wp2_with fail
          go_quiet (fail)
          go_wp2
          go_roundw
          case rel => exact ⟨j + 1, by omega, by go_num, bel_drewN HX.out _⟩
          case measure => simp [intOf]; omega
        · go_wp2
          go_ret
          exact ⟨rfl, belJ (belJ hbW.out (belJ HB5.out HB7.out)) HX.out⟩
end Go.Proofs.YtncnojgemmcplaaGreatDoor.St.Dc
