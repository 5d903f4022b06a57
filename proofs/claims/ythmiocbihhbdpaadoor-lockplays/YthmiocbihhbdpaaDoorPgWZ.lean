/-
  The program's Check and Order of a graph, walked.
  The program's Order of a graph, walked.
  The document's Closed and Groups, walked.
  The program's Closed, leader and Groups, walked.
-/
import Derived.Test.YthmiocbihhbdpaaDoorGrMZ
import Derived.Test.YthmiocbihhbdpaaDoorWalkAZ
import Derived.Test.YthmiocbihhbdpaaDoorMnPZ
namespace Go.Proofs.YthmiocbihhbdpaaDoor
open Go.RowKit

set_option maxRecDepth 100000 in
set_option maxHeartbeats 1000000 in
theorem gCheck_any (R : List (List Bool)) (a : Option Addr) (cap : Nat) (w : World) (hmax : R.length ≤ maxLen) (hrm : ∀ r ∈ R, r.length ≤ maxLen) (hg : GrQ w a R) :
    Calls Tryd.prog 42 #[.slice a R.length cap] w fun e w' => e = .returned (toldV (ckG R)) ∧ w' = w := by
  have HR : Hid (ckG R = if 40 < R.length then 4 else if (R.all fun r => r.length == R.length) = true then 0 else 3) := rfl
  have HG := hideIt hg
  have HM := hideIt hrm
  clear hg hrm
  go_enter Tryd.func42, Tryd.ntmps42
  by_cases h40 : R.length ≤ 40
  · have h40' : ¬ 40 < R.length := by omega
    rw [if_neg h40'] at HR
    go_wp2
    go_loopw [11] (fun v wr => ∃ k : Nat, k ≤ R.length ∧ v = .int .i64 k ∧ (∀ i (h : i < R.length), i < k → R[i].length = R.length) ∧ wr = w) (fun v _ => R.length - (intOf v).toNat)
    case atStart => exact ⟨0, Nat.zero_le _, rfl, fun i h hi => absurd hi (by omega), rfl⟩
    case round =>
      obtain ⟨k, hk, rfl, ha, rfl⟩ := hrel
      have HA := hideIt ha
      clear ha
      by_cases hkl : k < R.length
      · obtain ⟨b, off, rfl, hb, hj⟩ : ∃ b off, a = some ⟨b, off, none⟩ ∧ b < wr.heap.size ∧ ∀ i (h : i < R.length), ∃ s, wr.cell? ⟨b, off + i, none⟩ = some s ∧ BitsIn wr s R[i] := by
          rcases HG.out with h | h
          · subst h; simp at hkl
          · exact h
        obtain ⟨s, hs, a2, c2, rfl, _, _⟩ := hj k hkl
        have hml := HM.out R[k] (List.getElem_mem hkl)
        have hkl' : (k : Int) < R.length := by omega
        clear hj HG HM
        by_cases he : R[k].length = R.length
        · have R1 : Hid (∀ i (h : i < R.length), i < k + 1 → R[i].length = R.length) := fun i h hi => by
            by_cases e : i = k
            · subst e; exact he
            · exact HA.out i h (by omega)
          rw [he] at hs
          clear he hml
          go_wp2
          go_roundw
          case rel => exact ⟨k + 1, by omega, by go_num, R1.out, by first | rfl | trivial⟩
          case measure => simp [intOf]; omega
        · have HF : Hid (ckG R = 3) := by
            show ckG R = 3
            rw [HR.out, if_neg]
            intro h
            exact he (by simpa using List.all_eq_true.1 h R[k] (List.getElem_mem hkl))
          generalize R[k].length = m at hs he hml
          have he' : ((m : Int) != (R.length : Int)) = true := by simp; omega
          clear he
          go_wp2
          go_ret
          exact ⟨by rw [HF.out]; rfl, rfl⟩
      · have HF : Hid (ckG R = 0) := by
          show ckG R = 0
          rw [HR.out, if_pos]
          refine List.all_eq_true.2 fun r hr => ?_
          obtain ⟨i, hi, e⟩ := List.getElem_of_mem hr
          rw [← e, HA.out i hi (by omega)]
          simp
        obtain rfl : k = R.length := by omega
        go_wp2
        go_ret
        exact ⟨by rw [HF.out]; rfl, rfl⟩
  · have h40' : 40 < R.length := by omega
    rw [if_pos h40'] at HR
    go_wp2
    go_ret
    exact ⟨by rw [HR.out]; rfl, rfl⟩

/-- The least one, or none (-1). -/
def NxT (f : Nat → Bool) (n : Nat) (x : Int) : Prop := (x = -1 ∧ firstN f n = none) ∨ ∃ i : Nat, x = (i : Int) ∧ i < n ∧ firstN f n = some i

end Go.Proofs.YthmiocbihhbdpaaDoor

namespace Go.Proofs.YthmiocbihhbdpaaDoor
open Go.RowKit

theorem made_room (w : World) (n : Nat) (hn : n ≤ 60) : (Instr.makeSlice 24 (.int .i64 0) (.int .i64 (n : Int))).run Tryd.prog w = .ok (.slice (some ⟨w.heap.size, 0, none⟩) 0 n) (w.alloc (.cells (madeCells #[.int .i64 0] n) 3)) := by
  obtain ⟨i, hi, hz, hs, hb⟩ := info_parts' info3
  have := run_make (P := Tryd.prog) w 24 3 i (.int .i64 0) Tryd.underlying24 hi hz .i64 .i64 0 (n : Int) (by omega) (by omega) (by rw [hb]; omega) (by omega)
  have e : (Value.int .i64 0).cells = #[.int .i64 0] := rfl
  rw [e] at this
  simpa [hs] using this
theorem room_made (w : World) (n : Nat) (hn : n ≤ 60) : RowAt (w.alloc (.cells (madeCells #[.int .i64 0] n) 3)) w.heap.size (.slice (some ⟨w.heap.size, 0, none⟩) 0 n) [] :=
  .inr ⟨w.heap.size, 0, n, _, rfl, Nat.le_refl _, heap_alloc_new w _, Nat.zero_le _, by simp [madeCells], by unfold maxLen; omega, fun j hj => absurd hj (by simp)⟩
/-- What stands behind a step: a bit more is set, a number more is appended. -/
theorem step_put {w2 w3 : World} {Z Y n k : Nat} {S : Nat → Bool} {v v' : Value} {st st' : List Int} {w0 : World} (hbits : BitsAt w2 Y n S) (hk : k < n) (hY : Z ≤ Y) (hrow : RowAt w2 Z v st) (hne : v.ownBlock ≠ some Y) (hb : Below Z w0 w2)
    (ht : Turned ((w2.setCell ⟨Y, k, none⟩ (.bool true)).alloc (.cells #[.int .i64 (k : Nat)] 3)) Z v w3 v' st') :
    BitsAt w3 Y n (putB S k) ∧ RowAt w3 Z v' st' ∧ v'.ownBlock ≠ some Y ∧ Below Z w0 w3 := by
  have hZ := hbits.lt
  have h1 : BitsAt ((w2.setCell ⟨Y, k, none⟩ (.bool true)).alloc (.cells #[.int .i64 (k : Nat)] 3)) Y n (putB S k) := ((hbits.put hk true).block (w' := (w2.setCell ⟨Y, k, none⟩ (.bool true)).alloc (.cells #[.int .i64 (k : Nat)] 3)) (Below.heap_alloc _ _ Y (by simp; exact hZ))).same fun j _ => by unfold putB; rfl
  have hown : ∀ j, v.ownBlock = some j → Z ≤ j := fun j hj => (hrow.lt j hj).1
  refine ⟨h1.block (ht.grown.block Y (by simp; omega) (fun e => hne e.symm)), ht.row, fun e => ?_, ?_⟩
  · rcases ht.own Y e with h | h
    · exact hne h
    · simp at h; omega
  · have hb1 : Below Z w0 ((w2.setCell ⟨Y, k, none⟩ (.bool true)).alloc (.cells #[.int .i64 (k : Nat)] 3)) := (hb.setCell (p := ⟨Y, k, none⟩) hY _).alloc (by simp; omega) _
    exact hb1.grown ht.grown (by simp; omega) (fun j hj => hown j hj)

/-- What Order tells: an error, or the order. -/
def oG (R : List (List Bool)) : Int := if ckG R = 0 then (if (ordG (gB R) R.length R.length).isSome then 0 else 11) else ckG R
def oL (R : List (List Bool)) : List Nat := if ckG R = 0 then (ordG (gB R) R.length R.length).getD [] else []
def PoTold (R : List (List Bool)) (w : World) (e : Ending) (w' : World) : Prop :=
  ∃ v, e = .returned (.tuple #[v, toldV (oG R)]) ∧ RowAt w' w.heap.size v (natI (oL R)) ∧ Below w.heap.size w w'

end Go.Proofs.YthmiocbihhbdpaaDoor

namespace Go.Proofs.YthmiocbihhbdpaaDoor
open Go.RowKit

/-- What the document's Closed tells. -/
def GlTold (R : List (List Bool)) (w : World) (e : Ending) (w' : World) : Prop :=
  ∃ v gs A, e = .returned v ∧ OutAt w' w.heap.size R.length v gs A ∧ gs.length = R.length ∧ (∀ i k, i < R.length → k < R.length → A i k = war (gB R) R.length i k) ∧ Below w.heap.size w w'

def grpF (A : Nat → Nat → Bool) (i k : Nat) : Bool := k == i || (A i k && A k i)
theorem grp_of {R : List (List Bool)} {A : Nat → Nat → Bool} {n i : Nat} (hA : ∀ i k, i < n → k < n → A i k = war (gB R) n i k) (hi : i < n) {x : Int} (h : AtR (grpF A i) (i + 1) 0 x) : x = (grpG (gB R) n i : Nat) := by
  rcases h with ⟨_, ha⟩ | ⟨k, rfl, _, hk, hf, hl⟩
  · have := ha i (Nat.zero_le _) (by omega)
    simp [grpF] at this
  · have e : firstN (fun k => k == i || (war (gB R) n i k && war (gB R) n k i)) n = some k := firstN_at (by omega) (fun j hj => by
      have := hl j (Nat.zero_le _) hj
      unfold grpF at this
      rwa [hA i j hi (by omega), hA j i (by omega) hi] at this) (by
      unfold grpF at hf
      rwa [hA i k hi (by omega), hA k i (by omega) hi] at hf)
    unfold grpG
    rw [e]
    rfl
def grpL (R : List (List Bool)) (m : Nat) : List Int := (List.range m).map fun i => ((grpG (gB R) R.length i : Nat) : Int)
theorem grpL_succ (R : List (List Bool)) (m : Nat) : grpL R (m + 1) = grpL R m ++ [((grpG (gB R) R.length m : Nat) : Int)] := by simp [grpL, List.range_succ]
theorem grpL_len (R : List (List Bool)) (m : Nat) : (grpL R m).length = m := by simp [grpL]

end Go.Proofs.YthmiocbihhbdpaaDoor

namespace Go.Proofs.YthmiocbihhbdpaaDoor
open Go.RowKit

/-- Blocks of a world from lo on are as they were. -/
structure Kp (W wr : World) (lo : Nat) : Prop where
  size : W.heap.size ≤ wr.heap.size
  blk : ∀ b, lo ≤ b → b < W.heap.size → wr.heap[b]? = W.heap[b]?
theorem Kp.refl (W : World) (lo : Nat) : Kp W W lo := ⟨Nat.le_refl _, fun _ _ _ => rfl⟩
theorem Kp.alloc {W wr : World} {lo : Nat} (h : Kp W wr lo) (o : Obj) : Kp W (wr.alloc o) lo := ⟨by have := h.size; simp; omega, fun b h1 h2 => (Below.heap_alloc _ _ b (Nat.lt_of_lt_of_le h2 h.size)).trans (h.blk b h1 h2)⟩
theorem Kp.set {W wr : World} {lo : Nat} (h : Kp W wr lo) {p : Addr} (hp : p.block < lo ∨ W.heap.size ≤ p.block) (u : Value) : Kp W (wr.setCell p u) lo := ⟨by have := h.size; simp; omega, fun b h1 h2 => (Below.heap_setCell wr p u b (by omega)).trans (h.blk b h1 h2)⟩
theorem Kp.nums {W wr : World} {lo g n : Nat} {f : Nat → Nat} (h : Kp W wr lo) (hn : NumsAt W g n f) (hg : lo ≤ g) : NumsAt wr g n f := hn.block (h.blk g hg hn.lt)
theorem Kp.cell {W wr : World} {lo : Nat} (h : Kp W wr lo) {g i : Nat} {x : Value} (hg : lo ≤ g) (hc : W.cell? ⟨g, i, none⟩ = some x) : wr.cell? ⟨g, i, none⟩ = some x :=
  (World.cell?_of_block (a := ⟨g, i, none⟩) (h.blk g hg (World.block_lt_of_cell? W _ hc))).trans hc

theorem made_graph (w : World) (n : Nat) (hn : n ≤ 60) : (Instr.makeSlice 90 (.int .i64 (n : Int)) (.int .i64 (n : Int))).run Tryd.prog w = .ok (.slice (some ⟨w.heap.size, 0, none⟩) n n) (w.alloc (.cells (madeCells #[.slice none 0 0] n) 52)) := by
  obtain ⟨i, hi, hz, hs, hb⟩ := info_parts' info46
  have := run_make (P := Tryd.prog) w 90 52 i (.slice none 0 0) Tryd.underlying90 hi hz .i64 .i64 (n : Int) (n : Int) (by omega) (Int.le_refl _) (by rw [hb]; omega) (by omega)
  have e : (Value.slice none 0 0).cells = #[.slice none 0 0] := rfl
  rw [e] at this
  simpa [hs] using this

def midB (A : Nat → Nat → Bool) (m k : Nat) : Nat → Nat → Bool := fun a b => if a = m ∧ k ≤ b then false else A a b
theorem midB_put (A : Nat → Nat → Bool) (m k : Nat) (x : Bool) (h : A m k = x) (a b : Nat) : (if a = m ∧ b = k then x else midB A m k a b) = midB A m (k + 1) a b := by
  unfold midB
  by_cases e : a = m ∧ b = k
  · obtain ⟨rfl, rfl⟩ := e
    rw [if_pos ⟨rfl, rfl⟩, if_neg (by omega), h]
  · rw [if_neg e]
    by_cases e' : a = m ∧ k + 1 ≤ b
    · rw [if_pos (by omega), if_pos e']
    · rw [if_neg (by omega), if_neg e']
theorem midB_end (A : Nat → Nat → Bool) (m n a b : Nat) (hb : b < n) : midB A m n a b = A a b := by
  unfold midB
  rw [if_neg (by omega)]

/-- What Closed tells. -/
def PcTold (R : List (List Bool)) (w : World) (e : Ending) (w' : World) : Prop :=
  ∃ v, e = .returned (.tuple #[v, toldV (ckG R)]) ∧ (ckG R = 0 → ∃ B rb, v = .slice (some ⟨B, 0, none⟩) R.length R.length ∧ MatAt w' w.heap.size B R.length R.length rb (war (gB R) R.length)) ∧ (ckG R ≠ 0 → v = .slice none 0 0) ∧ Below w.heap.size w w'

set_option maxRecDepth 100000 in
set_option maxHeartbeats 8000000 in
theorem gClosed_any (R : List (List Bool)) (a : Option Addr) (cap : Nat) (w : World) (hmax : R.length ≤ maxLen) (hrm : ∀ r ∈ R, r.length ≤ maxLen) (hg : GrQ w a R) :
    Calls Tryd.prog 35 #[.slice a R.length cap] w fun e w' => PcTold R w e w' := by
  have HC := hideIt (gCheck_any R a cap w hmax hrm hg)
  by_cases ok : ckG R = 0
  · have h40 := (ckG_ok ok).1
    rw [ok] at HC
    have hmk := made_graph w R.length (by omega)
    have HM0 := hideIt (mat_made w R.length)
    have HB0 : Hid (Below w.heap.size w (w.alloc (.cells (madeCells #[.slice none 0 0] R.length) 52))) := belA (Below.refl _ _) _
    have HDi := hideIt (distances_any R ok a cap (w.alloc (.cells (madeCells #[.slice none 0 0] R.length) 52)) (hg.below HB0.out))
    rw [show (w.alloc (.cells (madeCells #[.slice none 0 0] R.length) 52)).heap.size = w.heap.size + 1 by simp] at HDi
    have HWr : Hid (∀ i k, i < R.length → k < R.length → decide (0 < farG (gB R) R.length i k) = war (gB R) R.length i k) := fun i k hi hk => far_war hi hk
    unfold PcTold
    rw [ok]
    clear hg ok hrm hmax
    generalize farG (gB R) R.length = D at HDi HWr
    generalize war (gB R) R.length = A at HWr ⊢
    generalize R.length = n at *
    go_enter Tryd.func35, Tryd.ntmps35
    go_wp2_with fail
    refine HC.out.mono ?_
    clear HC
    rintro e w1 ⟨rfl, rfl⟩
    have ht0 : toldV 0 = .nilIface := rfl
    rw [ht0]
    go_wp2_with fail
    refine HDi.out.mono ?_
    clear HDi hmk
    rintro e W1 ⟨B, rb, rfl, hN, hb1⟩
    have HN := hideIt hN
    have hS : w1.heap.size + 1 ≤ W1.heap.size := by have := hb1.size; simpa using this
    have HM1 : Hid (MatAt W1 w1.heap.size w1.heap.size n 0 (fun _ => 0) A) := (HM0.out.below (by simpa using hb1)).same fun i k hi => absurd hi (by omega)
    have HB1 : Hid (Below w1.heap.size w1 W1) := HB0.out.trans (hb1.mono (by omega))
    clear hN hb1 HM0 HB0
    go_wp2
    go_loopw [21] (fun v wr => ∃ (m : Nat) (cb : Nat → Nat), m ≤ n ∧ v = .int .i64 m ∧ MatAt wr w1.heap.size w1.heap.size n m cb A ∧ (∀ i, i < m → W1.heap.size ≤ cb i) ∧ Kp W1 wr (w1.heap.size + 1) ∧ Below w1.heap.size w1 wr) (fun v _ => n - (intOf v).toNat)
    case atStart => exact ⟨0, _, Nat.zero_le _, rfl, HM1.out, fun i hi => absurd hi (by omega), Kp.refl _ _, HB1.out⟩
    case round =>
      clear HM1 HB1
      obtain ⟨m, cb, hm, rfl, hM, hcb, hkp, hb⟩ := hrel
      have HM := hideIt hM
      have HB := hideIt hb
      have HCb := hideIt hcb
      have HKp := hideIt hkp
      clear hM hb hcb hkp
      by_cases hmn : m < n
      · have hmn' : (m : Int) < n := by omega
        have r0 := HKp.out.cell HN.out.lo (HN.out.head m hmn)
        have hmk := made_bits wr n (by omega)
        have HMa := hideIt (HM.out.alloc (.cells (madeCells #[.bool false] n) 4))
        have HN1 := hideIt (bits_made wr n)
        have hBl := HM.out.lt
        have hBs := HB.out.size
        have hks := HKp.out.size
        obtain ⟨ov, hov⟩ := HMa.out.room m hmn
        have hfz := HMa.out.fz m
        have HB1 : Hid (Below w1.heap.size w1 ((wr.alloc (.cells (madeCells #[.bool false] n) 4)).setCell ⟨w1.heap.size, m, none⟩ (.slice (some ⟨wr.heap.size, 0, none⟩) n n))) := (belA HB.out _).setCell (p := ⟨w1.heap.size, m, none⟩) (Nat.le_refl _) _
        have HK1 : Hid (Kp W1 ((wr.alloc (.cells (madeCells #[.bool false] n) 4)).setCell ⟨w1.heap.size, m, none⟩ (.slice (some ⟨wr.heap.size, 0, none⟩) n n)) (w1.heap.size + 1)) := (HKp.out.alloc _).set (p := ⟨w1.heap.size, m, none⟩) (.inl (Nat.lt_succ_self _)) _
        have HM2 : Hid (MatAt ((wr.alloc (.cells (madeCells #[.bool false] n) 4)).setCell ⟨w1.heap.size, m, none⟩ (.slice (some ⟨wr.heap.size, 0, none⟩) n n)) w1.heap.size w1.heap.size n (m + 1) (fun i => if i = m then wr.heap.size else cb i) (midB A m 0)) :=
          (HMa.out.add hmn HN1.out hBs (by omega) (fun i hi => Nat.ne_of_lt (HM.out.row i hi).lt)).same fun i k _ _ => by
            unfold midB
            by_cases e : i = m
            · rw [if_pos e, if_pos ⟨e, Nat.zero_le _⟩]
            · rw [if_neg e, if_neg (fun h => e h.1)]
        have HC2 : Hid (∀ i, i < m + 1 → W1.heap.size ≤ (fun i => if i = m then wr.heap.size else cb i) i) := fun i hi => by
          by_cases e : i = m
          · show _ ≤ (if i = m then wr.heap.size else cb i)
            rw [if_pos e]; exact hks
          · show _ ≤ (if i = m then wr.heap.size else cb i)
            rw [if_neg e]; exact HCb.out i (by omega)
        rw [World.setCell_alloc_past _ _ _ _ hBl] at HM2 HB1 HK1
        clear HMa HN1 HM HCb
        go_wp2
        clear hmk hov hfz r0
        generalize (wr.setCell _ _).alloc _ = W2 at HB1 HM2 HK1 ⊢
        obtain ⟨cb1, HM2, HC2⟩ : ∃ cb1, Hid (MatAt W2 w1.heap.size w1.heap.size n (m + 1) cb1 (midB A m 0)) ∧ Hid (∀ i, i < m + 1 → W1.heap.size ≤ cb1 i) := ⟨_, HM2, HC2⟩
        clear HB hBl hBs hks HKp
        go_loopw [34] (fun v wz => ∃ k : Nat, k ≤ n ∧ v = .int .i64 k ∧ MatAt wz w1.heap.size w1.heap.size n (m + 1) cb1 (midB A m k) ∧ Kp W1 wz (w1.heap.size + 1) ∧ Below w1.heap.size w1 wz) (fun v _ => n - (intOf v).toNat)
        case atStart => exact ⟨0, Nat.zero_le _, rfl, HM2.out, HK1.out, HB1.out⟩
        case round =>
          clear HM2 HB1 HK1
          obtain ⟨k, hk, rfl, hM, hkp, hb⟩ := hrel
          have HM := hideIt hM
          have HB := hideIt hb
          have HKp := hideIt hkp
          clear hM hb hkp
          by_cases hkn : k < n
          · have hkn' : (k : Int) < n := by omega
            have r1 := (HKp.out.nums (HN.out.row m hmn) (HN.out.from_ m hmn).1).num k hkn
            have c0 := HM.out.head m (by omega)
            have c1 := (HM.out.row m (by omega)).bit k hkn
            have z1 := (HM.out.row m (by omega)).fz k
            have hge := (HM.out.from_ m (by omega)).1
            have hcm := HC2.out m (by omega)
            have hw := HWr.out m k hmn hkn
            have HPut : Hid (∀ x : Bool, A m k = x → MatAt (wr.setCell ⟨cb1 m, k, none⟩ (.bool x)) w1.heap.size w1.heap.size n (m + 1) cb1 (midB A m (k + 1)) ∧ Kp W1 (wr.setCell ⟨cb1 m, k, none⟩ (.bool x)) (w1.heap.size + 1) ∧ Below w1.heap.size w1 (wr.setCell ⟨cb1 m, k, none⟩ (.bool x))) := fun x h =>
              ⟨(HM.out.put (by omega) hkn x).same fun i b _ _ => midB_put A m k x h i b, HKp.out.set (p := ⟨cb1 m, k, none⟩) (.inr hcm) _, HB.out.setCell (p := ⟨cb1 m, k, none⟩) hge _⟩
            generalize midB A m k m k = old at c1
            generalize D m k = d at r1 hw
            have R1 := hideIt (HPut.out (decide (0 < d)) hw.symm)
            clear HPut hw
            go_wp2
            go_roundw
            case rel => exact ⟨k + 1, by omega, by go_num, R1.out⟩
            case measure => simp [intOf]; omega
          · obtain rfl : k = n := by omega
            have R1 : Hid (MatAt wr w1.heap.size w1.heap.size k (m + 1) cb1 A) := HM.out.same fun i b _ hb => midB_end _ _ _ _ _ hb
            go_wp2
            go_roundw
            case rel => exact ⟨m + 1, cb1, by omega, by go_num, R1.out, HC2.out, HKp.out, HB.out⟩
            case measure => simp [intOf]; omega
      · obtain rfl : m = n := by omega
        go_wp2
        go_ret2
        exact ⟨_, rfl, fun _ => ⟨_, cb, rfl, HM.out⟩, fun h => absurd rfl h, HB.out⟩
  · have hn : toldV (ckG R) = .iface 29 (.int .i64 (ckG R)) := by unfold toldV; rw [if_neg ok]
    rw [hn] at HC
    unfold PcTold
    rw [hn]
    clear hg hrm hmax hn
    generalize ckG R = c at HC ok ⊢
    go_enter Tryd.func35, Tryd.ntmps35
    go_wp2_with fail
    refine HC.out.mono ?_
    rintro e w1 ⟨rfl, rfl⟩
    go_wp2
    go_ret2
    exact ⟨_, rfl, fun h => absurd h ok, fun _ => rfl, Below.refl _ _⟩

theorem grpG_lead {g : Nat → Nat → Bool} {n i o : Nat} (hi : i < n) (ho : o < i) (h1 : war g n i o = true) (h2 : war g n o i = true) (hl : ∀ k, k < o → ¬ (war g n i k = true ∧ war g n k i = true)) : grpG g n i = o := by
  unfold grpG
  rw [firstN_at (k := o) (by omega) (fun j hj => ?_) (by simp [h1, h2])]
  · rfl
  · have := hl j hj
    simp at this ⊢
    exact ⟨by omega, this⟩
theorem grpG_self {g : Nat → Nat → Bool} {n i : Nat} (hi : i < n) (hl : ∀ k, k < i → ¬ (war g n i k = true ∧ war g n k i = true)) : grpG g n i = i := by
  unfold grpG
  rw [firstN_at (k := i) hi (fun j hj => ?_) (by simp)]
  · rfl
  · have := hl j hj
    simp at this ⊢
    exact ⟨by omega, this⟩

end Go.Proofs.YthmiocbihhbdpaaDoor
