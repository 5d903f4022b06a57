/-
  The program's store: a new one; whatever is played; what is kept (plain and walked).
  One node, one client, one write: the fact of the statements, walked.
  What was seen, in memory: events and stamps by their places.
-/
import Derived.Test.YtncnojgemmcplaaGreatDoorNwWZ
import Derived.Deep.RegionHeld3
import Derived.BigQuiet
namespace Go.Proofs.YtncnojgemmcplaaGreatDoor.St
open Go.RowKit

def stK0 (B N C : Nat) : StK := ⟨B, N, C, .slice none 0 0, .slice none 0 0, .slice none 0 0, .slice none 0 0, fun _ => .slice none 0 0⟩
theorem sto_new {w W : World} {B N C n k ask tell : Nat} {back : Bool} (h : NwAt w W B N C n k (ask : Int) (tell : Int) back n 0) : StoP w W (stK0 B N C) (pst0 n k ask tell back) := by
  obtain ⟨cur, hc, _⟩ := h.nb
  have hcl : ∀ i j, i < k → j < 13 → W.cell? ⟨C, i * 13 + j, none⟩ = (#[.int .i64 0, .int .i64 0, .int .i64 0, .int .i64 0, .int .i64 0, .int .i64 0, .int .i64 0, .int .i64 0, .int .i64 0, .slice none 0 0, .int .i64 0, .int .i64 0, .int .i64 0] : Array Value)[j]? := fun i j hi hj => by
    rw [cell_of_row _ _ _ _ 103 _ h.cb]
    exact clZ_at k hi hj
  refine ⟨h.bel, h.blk, ⟨cur, hc⟩, fun i q hi hq => h.nx i q hi hq (.inl hi), ⟨_, h.cb⟩, fun i hi => ⟨?_, ⟨?_, ?_, ?_, ?_, ?_, ?_, ?_⟩, ?_, ?_, ⟨?_, ?_, ?_⟩⟩, ⟨rfl, .inl ⟨rfl, rfl⟩⟩, ⟨rfl, .inl ⟨rfl, rfl⟩⟩, ⟨rfl, .inl ⟨rfl, rfl⟩⟩, fun i _ => ⟨rfl, .inl ⟨rfl, rfl⟩⟩, .inl ⟨rfl, rfl⟩, h.lo, fun i j _ _ _ b hb => by cases hb⟩
  · exact hcl i 0 hi (by decide)
  · exact hcl i 1 hi (by decide)
  · exact hcl i 2 hi (by decide)
  · exact hcl i 3 hi (by decide)
  · exact hcl i 4 hi (by decide)
  · exact hcl i 5 hi (by decide)
  · exact hcl i 6 hi (by decide)
  · exact hcl i 7 hi (by decide)
  · exact hcl i 8 hi (by decide)
  · exact hcl i 9 hi (by decide)
  · exact hcl i 10 hi (by decide)
  · exact hcl i 11 hi (by decide)
  · exact hcl i 12 hi (by decide)
theorem PInv.up2 {P : Pst} {b : Nat} (h : PInv P b) (hb : b + 2 ≤ 500) : PInv P (b + 2) := (h.up (by omega)).up hb
theorem pinv0 {n k ask tell : Nat} (back : Bool) (h1 : 1 ≤ n) (h7 : n ≤ 7) (h8 : k ≤ 8) : PInv (pst0 n k ask tell back) 0 :=
  ⟨h1, h7, h8, by omega, Nat.le_refl _, Nat.le_refl _, Nat.zero_le _, fun m hm => (by cases hm), fun i _ => ⟨Nat.le_refl _, ⟨Int.le_refl _, Int.le_refl _⟩, ⟨Int.le_refl _, Int.le_refl _⟩, Int.le_refl _, (show (0 : Int) < 8 by decide)⟩, fun i q _ _ => ⟨Int.le_refl _, Int.le_refl _⟩, fun m hm => by cases hm⟩
theorem PInv.links {P : Pst} {b : Nat} (h : PInv P b) (nil : Bool) (r : Nat → Nat → Bool) : PInv { P with nil := nil, lr := r } b := ⟨h.n1, h.n7, h.k8, h.b0, h.ev, h.st, h.ml, h.mq, h.cl, h.hs, h.fr⟩
theorem PInv.play {P : Pst} {b : Nat} (h : PInv P b) (hb : b + 2 ≤ 500) (m : Mvs) : PInv (playP P m) (b + 2) := by
  unfold playP
  repeat' split
  · exact (h.beg (by omega) _ _ _ _).up (by omega)
  · exact (h.beg (by omega) _ _ _ _).up (by omega)
  · exact h.deli hb _
  · exact (h.drop _).up2 hb
  · exact (h.doub _).up2 hb
  · exact (h.give (by omega) _).up (by omega)
  · exact (h.links true P.lr).up2 hb
  · unfold cutP
    split
    · exact (h.links false _).up2 hb
    · exact h.up2 hb
theorem runP_take {P : Pst} {l : List Mvs} {i : Nat} (hi : i < l.length) : runP P (l.take (i + 1)) = playP (runP P (l.take i)) l[i] := by
  unfold runP
  rw [List.take_succ_eq_append_getElem hi, List.foldl_append]
  rfl
theorem runP_inv {n k ask tell : Nat} (back : Bool) (h1 : 1 ≤ n) (h7 : n ≤ 7) (h8 : k ≤ 8) (l : List Mvs) (hl : l.length ≤ 250) : ∀ i, i ≤ l.length → PInv (runP (pst0 n k ask tell back) (l.take i)) (2 * i) := by
  intro i
  induction i with
  | zero => exact fun _ => pinv0 back h1 h7 h8
  | succ i ih =>
    intro hi
    rw [runP_take (by omega)]
    exact (ih (by omega)).play (by omega) _

set_option maxRecDepth 100000 in
set_option maxHeartbeats 4000000 in
theorem moved_any (n k ask tell : Nat) (back : Bool) (hc : checkC (n : Int) (k : Int) (ask : Int) (tell : Int) = 0) (a : Option Addr) (cap : Nat) (l : List Mvs) (hl : l.length ≤ 250) (w : World) (hm : MvsQ w a l) :
    Calls Tryz.prog 20 #[.agg #[.int .i64 (n : Int), .int .i64 (k : Int), .int .i64 (ask : Int), .int .i64 (tell : Int), .bool back], .slice a l.length cap] w fun e w' => ∃ w0 K, e = .returned (.pointer (some ⟨K.B, 0, none⟩)) ∧ StoP w0 w' K (runP (pst0 n k ask tell back) l) ∧ Below w.heap.size w w' := by
  obtain ⟨hn, hk, ha, ht⟩ := checkC_ok hc
  have HB := hideIt (belA (Below.refl _ w) (.cells #[.int .i64 (n : Int), .int .i64 (k : Int), .int .i64 (ask : Int), .int .i64 (tell : Int), .bool back] 23))
  have HN := hideIt (new_any n k (ask : Int) (tell : Int) back (w.alloc (.cells #[.int .i64 (n : Int), .int .i64 (k : Int), .int .i64 (ask : Int), .int .i64 (tell : Int), .bool back] 23)) hc)
  have HI : Hid (∀ i, i ≤ l.length → PInv (runP (pst0 n k ask tell back) (l.take i)) (2 * i)) := runP_inv back (by omega) (by omega) (by omega) l hl
  have HM := hideIt hm
  clear hc hn hk ha ht hm
  go_enter Tryz.func20, Tryz.ntmps20
  go_wp2_with fail
  refine HN.out.mono ?_
  clear HN
  rintro e W1 ⟨B, N, C, rfl, hN⟩
  have HS := hideIt (sto_new hN)
  clear hN
  generalize hw1 : w.alloc _ = w1 at HB HS ⊢
  clear hw1
  go_wp2
  go_loopw [7] (fun v wr => ∃ (i : Nat) (K : StK), i ≤ l.length ∧ v = .int .i64 i ∧ StoP w1 wr K (runP (pst0 n k ask tell back) (l.take i)) ∧ K.B = B) (fun v _ => l.length - (intOf v).toNat)
  case atStart => exact ⟨0, _, Nat.zero_le _, rfl, HS.out, rfl⟩
  case round =>
    clear HS
    obtain ⟨i, K, hi, rfl, hS, hKB⟩ := hrel
    subst hKB
    have HS := hideIt hS
    clear hS
    by_cases hil : i < l.length
    · have hil' : (i : Int) < (l.length : Int) := by omega
      have hbw : Below w.heap.size w wr := belJ HB.out HS.out.bel
      obtain ⟨g, off, rfl, hg, q0, q1, q2, q3⟩ := (HM.out.below hbw).at hil
      have HC := hideIt (play_any HS.out (HI.out i hi) l[i])
      unfold mvV at HC
      have HT : Hid (runP (pst0 n k ask tell back) (l.take (i + 1)) = playP (runP (pst0 n k ask tell back) (l.take i)) l[i]) := runP_take hil
      clear hbw hg
      generalize l[i] = mv at HC HT q0 q1 q2 q3
      generalize toldE _ = ve at HC
      go_wp2_with fail
      refine HC.out.mono ?_
      clear HC
      rintro e W2 ⟨rfl, K2, h2, h3⟩
      have HK2 : Hid (K2.B = K.B) := h3.B.1
      have HS2 := hideIt h2
      clear h2 h3
      go_wp2
      go_roundw
      case rel => exact ⟨i + 1, K2, by omega, by go_num, by rw [HT.out]; exact HS2.out, HK2.out⟩
      case measure => simp [intOf]; omega
    · have hil2 : i = l.length := by omega
      have HS2 : Hid (StoP w1 wr K (runP (pst0 n k ask tell back) l)) := by
        have := HS.out
        rw [hil2, List.take_length] at this
        exact this
      have hd : ¬ (i : Int) < (l.length : Int) := by omega
      clear hil2 HS
      go_wp2
      go_ret
      exact ⟨w1, K, rfl, HS2.out, belJ HB.out HS2.out.bel⟩

set_option maxRecDepth 100000 in
theorem crossing_any (n k ask tell : Nat) (back : Bool) (h1 : ask ≤ 7) (h2 : tell ≤ 7) (w : World) : Calls Tryz.prog 19 #[.agg #[.int .i64 (n : Int), .int .i64 (k : Int), .int .i64 (ask : Int), .int .i64 (tell : Int), .bool back]] w fun e w' => e = .returned (.bool (decide (n < ask + tell))) ∧ Below w.heap.size w w' := by
  have HB := hideIt (belA (Below.refl _ w) (.cells #[.int .i64 (n : Int), .int .i64 (k : Int), .int .i64 (ask : Int), .int .i64 (tell : Int), .bool back] 23))
  have hw : IntKind.i64.wrap ((ask : Int) + (tell : Int)) = (ask : Int) + (tell : Int) := IntWalk.i64_in _ (by omega)
  have HE : Hid (decide ((ask : Int) + (tell : Int) > (n : Int)) = decide (n < ask + tell)) := decide_eq_decide.2 (by omega)
  go_enter Tryz.func19, Tryz.ntmps19
  go_wp2
  go_ret
  exact ⟨by rw [← HE.out]; rfl, HB.out⟩
end Go.Proofs.YtncnojgemmcplaaGreatDoor.St

namespace Go.Proofs.YtncnojgemmcplaaGreatDoor.St
open Go.RowKit

def fst0 : Pst := begP (pst0 1 1 1 1 false) 0 0 true 7
def fsts : Nat → Pst
  | 0 => fst0
  | i + 1 => deliP (fsts i) 0
theorem fst_beg : begC (pst0 1 1 1 1 false) 0 0 true 7 = 0 := by decide
theorem fst_deli : ∀ i, i < 4 → deliC (fsts i) 0 = 0
  | 0, _ => by decide
  | 1, _ => by decide
  | 2, _ => by decide
  | 3, _ => by decide
theorem fst_inv : ∀ i, i ≤ 4 → PInv (fsts i) (1 + 2 * i)
  | 0, _ => (pinv0 (n := 1) (k := 1) (ask := 1) (tell := 1) false (by decide) (by decide) (by decide)).beg (by decide) 0 0 true 7
  | i + 1, h => (fst_inv i (by omega)).deli (by omega) _
theorem fst_end : (fsts 4).evs = [⟨0, 1, 0, 2, 7, 0, 0⟩, ⟨0, 2, 0, 2, 7, 0, 0⟩] := by rfl
set_option maxRecDepth 100000 in
set_option maxHeartbeats 4000000 in
theorem stores_any (w : World) : Calls Tryz.prog 18 #[] w fun e w' => e = .returned (.bool true) ∧ Below w.heap.size w w' := by
  have HN : Hid (Calls Tryz.prog 6 #[.agg #[.int .i64 1, .int .i64 1, .int .i64 1, .int .i64 1, .bool false]] w fun e w' => ∃ B N C, e = .returned (.tuple #[.pointer (some ⟨B, 0, none⟩), .nilIface]) ∧ NwAt w w' B N C 1 1 1 1 false 1 0) := new_any 1 1 1 1 false w (by decide)
  go_enter Tryz.func18, Tryz.ntmps18
  go_wp2_with fail
  refine HN.out.mono ?_
  clear HN
  rintro e W1 ⟨B, N, C, rfl, hN⟩
  have hS := sto_new (ask := 1) (tell := 1) hN
  have HBg := hideIt (begin_any hS (pinv0 false (by decide) (by decide) (by decide)).bnd 0 0 true 7)
  rw [fst_beg] at HBg
  clear hN hS
  have hz : toldE 0 = .nilIface := rfl
  rw [hz] at HBg
  clear hz
  unfold stK0 at HBg
  go_wp2_with fail
  refine HBg.out.mono ?_
  clear HBg
  rintro e W2 ⟨rfl, K, hS, hF⟩
  have HS : Hid (StoP w W2 K (fsts 0) ∧ K.B = B) := ⟨hS, hF.B.1⟩
  clear hS hF
  go_wp2
  go_loopw [3] (fun v wr => ∃ (i : Nat) (K : StK), i ≤ 4 ∧ v = .int .i64 i ∧ StoP w wr K (fsts i) ∧ K.B = B) (fun v _ => 4 - (intOf v).toNat)
  case atStart => exact ⟨0, _, Nat.zero_le _, rfl, HS.out.1, HS.out.2⟩
  case round =>
    clear HS K
    obtain ⟨i, K, hi, rfl, hS, hKB⟩ := hrel
    subst hKB
    have HS := hideIt hS
    clear hS
    by_cases hil : i < 4
    · have hil' : (i : Int) < 4 := by omega
      have HC := hideIt (deliver_any HS.out (fst_inv i hi).bnd 0)
      rw [fst_deli i hil] at HC
      have hz : toldE 0 = .nilIface := rfl
      rw [hz] at HC
      clear hz
      go_wp2_with fail
      refine HC.out.mono ?_
      clear HC
      rintro e W3 ⟨rfl, K2, h2, h3⟩
      have HK2 : Hid (K2.B = K.B) := h3.B.1
      have HS2 : Hid (StoP w W3 K2 (fsts (i + 1))) := h2
      clear h2 h3
      go_wp2
      go_roundw
      case rel => exact ⟨i + 1, K2, by omega, by go_num, HS2.out, HK2.out⟩
      case measure => simp [intOf]; omega
    · have hi4 : i = 4 := by omega
      have hS4 : StoP w wr K (fsts 4) := by have := HS.out; rw [hi4] at this; exact this
      have hd : ¬ (i : Int) < 4 := by omega
      have HE := hideIt (events_any hS4 (by rw [fst_end]; decide))
      rw [fst_end] at HE
      have HBw := hideIt hS4.bel
      clear hS4 hi4 HS hil
      go_wp2_with fail
      refine HE.out.mono ?_
      clear HE
      rintro e W3 ⟨v', rfl, ho, hb⟩
      have HBe := hideIt (belJ HBw.out hb)
      rcases own_cells ho with ⟨_, e⟩ | ⟨g, cap, rfl, _, _, hc⟩
      · exact absurd e (by decide)
      · have d8 : W3.cell? ⟨g, 8, none⟩ = some (.int .i64 2) := hc 8 (by decide)
        have d11 : W3.cell? ⟨g, 11, none⟩ = some (.int .i64 7) := hc 11 (by decide)
        clear hc ho hb HBw
        go_wp2
        go_ret
        exact ⟨rfl, HBe.out⟩
end Go.Proofs.YtncnojgemmcplaaGreatDoor.St

namespace Go.Proofs.YtncnojgemmcplaaGreatDoor.St
open Go.RowKit

def evI (l : List Evp) (i : Nat) : Evp := (l[i]?).getD ⟨0, 0, 0, 0, 0, 0, 0⟩
theorem evCs_at {l : List Evp} {i j : Nat} (hi : i < l.length) (hj : j < 7) : (evCs l)[i * 7 + j]? = (evC (evI l i))[j]? := by
  have := flat_at (c := evC) (m := 7) (fun _ => rfl) l i j hi hj
  unfold evCs
  rw [this]
  congr 2
  unfold evI
  rw [List.getElem?_eq_getElem hi]
  rfl
end Go.Proofs.YtncnojgemmcplaaGreatDoor.St
