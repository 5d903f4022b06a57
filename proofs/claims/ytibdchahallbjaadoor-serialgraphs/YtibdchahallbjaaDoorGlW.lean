/-
  The document's Closed and Groups, walked.
-/
import Derived.Test.YtibdchahallbjaaDoorSmI
namespace Go.Proofs.YtibdchahallbjaaDoor
open Go.RowKit

set_option maxRecDepth 100000 in
set_option maxHeartbeats 1000000 in
theorem gAt_any (R : List (List Bool)) (ok : ckG R = 0) (a : Option Addr) (cap Bx : Nat) (w : World) (hg : GrQ w a R) (hB : w.cell? ⟨Bx, 0, none⟩ = some (.slice a R.length cap)) (i k : Nat) (hi : i < R.length) (hk : k < R.length) :
    Calls Tryd.prog 40 #[.int .i64 (i : Nat), .int .i64 (k : Nat), .pointer (some ⟨Bx, 0, none⟩)] w fun e w' => e = .returned (.bool (gB R i k)) ∧ Below w.heap.size w w' := by
  have h40 := (ckG_ok ok).1
  obtain ⟨b, off, rfl, hb, rb, ro, rc, r0, _, _, hr⟩ := hg.at ok hi
  have r1 := hr k hk
  have hi' : (i : Int) < R.length := by omega
  have hk' : (k : Int) < R.length := by omega
  clear hr hg ok
  generalize gB R i k = gb at r1
  go_enter Tryd.func40, Tryd.ntmps40
  go_wp2
  go_ret
  exact ⟨rfl, Below.refl _ _⟩

/-- What the document's Closed tells. -/
def GlTold (R : List (List Bool)) (w : World) (e : Ending) (w' : World) : Prop :=
  ∃ v gs A, e = .returned v ∧ OutAt w' w.heap.size R.length v gs A ∧ gs.length = R.length ∧ (∀ i k, i < R.length → k < R.length → A i k = war (gB R) R.length i k) ∧ Below w.heap.size w w'

set_option maxRecDepth 100000 in
set_option maxHeartbeats 1000000 in
theorem rClosed_any (R : List (List Bool)) (ok : ckG R = 0) (a : Option Addr) (cap : Nat) (w : World) (hg : GrQ w a R) :
    Calls Tryd.prog 18 #[.slice a R.length cap] w fun e w' => GlTold R w e w' := by
  have h40 := (ckG_ok ok).1
  have hb : Below w.heap.size w (w.alloc (.cells #[.slice a R.length cap] 22)) := belA (Below.refl _ _) _
  have HC := hideIt (walks_any R.length (gB R) w.heap.size (w.alloc (.cells #[.slice a R.length cap] 22)) (by omega) fun W i k hW hi hk =>
    gAt_any R ok a cap w.heap.size W (hg.below (belJ hb hW)) (by rw [hW.cell (p := ⟨w.heap.size, 0, none⟩) (by simp)]; simp) i k hi hk)
  clear hg ok
  go_enter Tryd.func18, Tryd.ntmps18
  go_wp2_with fail
  refine HC.out.mono ?_
  rintro e w2 ⟨v, gs, A, rfl, ho, hgl, hA, hb2⟩
  have HO : Hid (OutAt w2 w.heap.size R.length v gs A) := ⟨ho.row.base hb.size, fun j hj => ⟨(ho.bits j hj).1, Nat.le_trans hb.size (ho.bits j hj).2.1, (ho.bits j hj).2.2⟩⟩
  clear ho
  go_wp2
  go_ret
  exact ⟨_, gs, A, rfl, HO.out, hgl, fun i k hi hk => by rw [Bool.eq_iff_iff, hA i k hi hk, war_iff hi hk], belJ hb hb2⟩

def grpF (A : Nat → Nat → Bool) (i k : Nat) : Bool := k == i || (A i k && A k i)
theorem grp_of {R : List (List Bool)} {A : Nat → Nat → Bool} {n i : Nat} (hA : ∀ i k, i < n → k < n → A i k = war (gB R) n i k) (hi : i < n) {x : Int} (h : AtR (grpF A i) (i + 1) 0 x) : x = (grpG (gB R) n i : Nat) := by
  rcases h with ⟨_, ha⟩ | ⟨k, rfl, _, hk, hf, hl⟩
  · have := ha i (Nat.zero_le _) (by omega)
    simp [grpF] at this
  · have e : firstN (fun k => k == i || (war (gB R) n i k && war (gB R) n k i)) n = some k := firstN_at (by omega) (fun j hj => by
      have := hl j (Nat.zero_le _) hj
      unfold grpF at this
      rwa [hA i j hi (by omega), hA j i (by omega) hi] at this) (by
      unfold grpF at hf
      rwa [hA i k hi (by omega), hA k i (by omega) hi] at hf)
    unfold grpG
    rw [e]
    rfl
def grpL (R : List (List Bool)) (m : Nat) : List Int := (List.range m).map fun i => ((grpG (gB R) R.length i : Nat) : Int)
theorem grpL_succ (R : List (List Bool)) (m : Nat) : grpL R (m + 1) = grpL R m ++ [((grpG (gB R) R.length m : Nat) : Int)] := by simp [grpL, List.range_succ]
theorem grpL_len (R : List (List Bool)) (m : Nat) : (grpL R m).length = m := by simp [grpL]

set_option maxRecDepth 100000 in
set_option maxHeartbeats 2000000 in
theorem rGroups_any (R : List (List Bool)) (ok : ckG R = 0) (a : Option Addr) (cap : Nat) (w : World) (hg : GrQ w a R) :
    Calls Tryd.prog 19 #[.slice a R.length cap] w fun e w' => ∃ v, e = .returned v ∧ RowAt w' w.heap.size v (grpL R R.length) ∧ Below w.heap.size w w' := by
  have h40 := (ckG_ok ok).1
  have HC := hideIt (rClosed_any R ok a cap w hg)
  clear hg ok
  go_enter Tryd.func19, Tryd.ntmps19
  go_wp2_with fail
  refine HC.out.mono ?_
  rintro e w1 ⟨vr, gs, A, rfl, ho, hgl, hA, hb1⟩
  obtain ⟨ar, cr, rfl, hcr, hrd⟩ := ho.readM hgl
  have HRd : Hid (∀ W, Below w1.heap.size w1 W → ∀ i, i < R.length → ∃ g off r, ar = some ⟨g, off, none⟩ ∧ W.cell? ⟨g, off + i, none⟩ = some (.slice (some ⟨r, 0, none⟩) R.length R.length) ∧ ∀ k, k < R.length → W.cell? ⟨r, k, none⟩ = some (.bool (A i k))) := fun W hW i hi => by
    obtain ⟨g, off, r, e, h1, h2⟩ := hrd i hi
    exact ⟨g, off, r, e, (hW.cell (p := ⟨g, off + i, none⟩) (World.block_lt_of_cell? w1 _ h1)).trans h1, fun k hk => (hW.cell (p := ⟨r, k, none⟩) (World.block_lt_of_cell? w1 _ (h2 k hk))).trans (h2 k hk)⟩
  have HA := hideIt hA
  have HB1 := hideIt hb1
  clear ho hrd hA hb1 HC
  go_wp2
  go_loopw [4, 12] (fun v c wr => ∃ m : Nat, m ≤ R.length ∧ c = .int .i64 m ∧ RowAt wr w1.heap.size v (grpL R m) ∧ Below w1.heap.size w1 wr) (fun _ c _ => R.length - (intOf c).toNat)
  case atStart => exact ⟨0, Nat.zero_le _, rfl, .inl ⟨rfl, rfl⟩, Below.refl _ _⟩
  case round =>
    obtain ⟨i, hi, rfl, hrow, hb⟩ := hrel
    have HRow := hideIt hrow
    have HB := hideIt hb
    clear hrow hb
    by_cases hin : i < R.length
    · have hin' : (i : Int) < R.length := by omega
      go_wp2
      go_loopw [6, 7] (fun x v wz => ∃ (j : Nat) (y : Int), j ≤ i ∧ x = .int .i64 y ∧ v = .int .i64 ((j : Int) - 1) ∧ AtR (grpF A i) (i + 1) j y ∧ wz = wr) (fun _ v _ => (intOf v + 1).toNat)
      case atStart => exact ⟨i, (i : Int), Nat.le_refl _, rfl, by go_num, .yes (by omega) (by simp [grpF]), rfl⟩
      case round =>
        obtain ⟨j, y, hj, rfl, rfl, hat, rfl⟩ := hrel
        have HAt := hideIt hat
        clear hat
        by_cases hj0 : 0 < j
        · obtain ⟨k, rfl⟩ : ∃ k, j = k + 1 := ⟨j - 1, by omega⟩
          rw [show (((k + 1 : Nat) : Int) - 1) = (k : Int) by omega]
          have hkn : k < R.length := by omega
          have hkn' : (k : Int) < R.length := by omega
          have hki : (k == i) = false := by simp; omega
          obtain ⟨g, off, r, rfl, c1, h2⟩ := HRd.out wr HB.out i hin
          obtain ⟨g', off', r', e', d1, h2'⟩ := HRd.out wr HB.out k hkn
          simp at e'
          obtain ⟨rfl, rfl⟩ := e'
          have c2 := h2 k hkn
          have d2 := h2' i hin
          have HF : Hid (grpF A i k = (A i k && A k i)) := by show grpF A i k = _; unfold grpF; rw [hki]; rfl
          generalize A i k = x1 at c2 HF
          generalize A k i = x2 at d2 HF
          clear h2 h2' hki
          cases x1
          · have R1 := hideIt (HAt.out.no (j := k) (by rw [HF.out]; rfl))
            go_wp2
            go_roundw
            case rel => exact ⟨k, y, by omega, rfl, rfl, R1.out, trivial⟩
            case measure => simp [intOf]
          · cases x2
            · have R1 := hideIt (HAt.out.no (j := k) (by rw [HF.out]; rfl))
              go_wp2
              go_roundw
              case rel => exact ⟨k, y, by omega, rfl, rfl, R1.out, trivial⟩
              case measure => simp [intOf]
            · have R1 := hideIt (AtR.yes (f := grpF A i) (n := i + 1) (j := k) (by omega) (by rw [HF.out]; rfl))
              go_wp2
              go_roundw
              case rel => exact ⟨k, (k : Int), by omega, rfl, rfl, R1.out, trivial⟩
              case measure => simp [intOf]
        · obtain rfl : j = 0 := by omega
          obtain rfl := grp_of HA.out hin HAt.out
          obtain ⟨va, vc, rfl⟩ := HRow.out.slice
          have HRow2 := hideIt (HRow.out.belowR (belA (Below.refl wr.heap.size wr) (.cells #[.int .i64 ((grpG (gB R) R.length i : Nat) : Int)] 3)))
          have hll : (grpL R i).length ≤ 40 := by rw [grpL_len]; omega
          have HSz : Hid (w1.heap.size ≤ wr.heap.size) := HB.out.size
          have HGs := hideIt (grpL_succ R i)
          generalize grpG (gB R) R.length i = gi at HRow2 HGs ⊢
          go_wp2_with (at_builtin; refine wpList_append_row rfl _ _ rfl w1.heap.size _ (grpL R i) rfl HRow2.out wr.heap.size 1 (gi : Int) rfl ?c1 ?c2 ?c3 ?_)
          case c1 => simp
          case c2 => omega
          case c3 => have := HSz.out; simp; omega
          intro v' w3 ht
          have HG2 : Hid (RowAt w3 w1.heap.size v' (grpL R (i + 1))) := by
            show RowAt w3 w1.heap.size v' (grpL R (i + 1))
            rw [HGs.out]; exact ht.row
          have HG3 : Hid (Below w1.heap.size w1 w3) := (belA HB.out _).grown ht.grown (by have := HSz.out; simp; omega) (fun k hk => (HRow.out.lt k hk).1)
          clear ht
          go_wp2
          go_roundw
          case rel => exact ⟨i + 1, by omega, by go_num, HG2.out, HG3.out⟩
          case measure => simp [intOf]; omega
    · obtain rfl : i = R.length := by omega
      go_wp2
      go_ret
      exact ⟨_, rfl, HRow.out.base HB1.out.size, belJ HB1.out HB.out⟩
end Go.Proofs.YtibdchahallbjaaDoor
