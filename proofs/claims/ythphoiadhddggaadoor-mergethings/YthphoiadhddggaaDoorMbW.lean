/-
  The statement's own sameInts and member, walked.
-/
import Derived.Test.YthphoiadhddggaaDoorLiT
import Derived.BigQuiet
namespace Go.Proofs.YthphoiadhddggaaDoor
open Go.RowKit

theorem RowAt.ints {w : World} {base : Nat} {a : Option Addr} {n cap : Nat} {st : List Int} (h : RowAt w base (.slice a n cap) st) : n = st.length ∧ IntsQ w a st := by
  rcases h with ⟨e, rfl⟩ | ⟨g, off, cap', cur, e, hb, hg, h1, h2, h3, h4⟩
  · obtain ⟨rfl, rfl, rfl⟩ : a = none ∧ n = 0 ∧ cap = 0 := by simpa using e
    exact ⟨rfl, .inl rfl⟩
  · obtain ⟨rfl, rfl, rfl⟩ : a = some ⟨g, off, none⟩ ∧ n = st.length ∧ cap = cap' := by simpa using e
    exact ⟨rfl, .inr ⟨g, off, rfl, lt_of_heap hg, h4⟩⟩

set_option maxRecDepth 100000 in
set_option maxHeartbeats 1000000 in
theorem sameInts_any (xs : List Int) (hn : xs.length ≤ 10000) (a a' : Option Addr) (cap cap' : Nat) (w : World) (h : IntsQ w a xs) (h' : IntsQ w a' xs) :
    Calls Tryd.prog 14 #[.slice a xs.length cap, .slice a' xs.length cap'] w fun e w' => e = .returned (.bool true) ∧ Below w.heap.size w w' := by
  have HR := hideIt h
  have HR' := hideIt h'
  clear h h'
  go_enter Tryd.func14, Tryd.ntmps14
  go_wp2
  go_loopw [5] (fun i wr => ∃ (k : Nat), k ≤ xs.length ∧ i = .int .i64 k ∧ Below w.heap.size w wr) (fun i _ => xs.length - (intOf i).toNat)
  case atStart => exact ⟨0, Nat.zero_le _, rfl, Below.refl _ _⟩
  case round =>
    obtain ⟨i, hi, rfl, hb⟩ := hrel
    have HB := hideIt hb
    clear hb
    by_cases hin : i < xs.length
    · obtain ⟨g, off, rfl, _, c1⟩ := (HR.out.below HB.out).at hin
      obtain ⟨g', off', rfl, _, c2⟩ := (HR'.out.below HB.out).at hin
      generalize xs[i] = x at c1 c2
      have hne : (x != x) = false := by simp
      go_wp2_with fail
      go_big_quiet (fail)
      go_wp2
      go_roundw
      case rel => exact ⟨i + 1, by omega, by go_num, below_drewN HB.out _⟩
      case measure => simp [intOf]; omega
    · go_wp2
      go_ret
      exact ⟨rfl, HB.out⟩

/-- What member tells. -/
def MemTold (xs : List Int) (x : Int) (w : World) (e : Ending) (w' : World) : Prop := ∃ b, e = .returned (.bool b) ∧ (b = true ↔ x ∈ xs) ∧ Below w.heap.size w w'

set_option maxRecDepth 100000 in
set_option maxHeartbeats 1000000 in
theorem member_any (xs : List Int) (hn : xs.length ≤ 10000) (x : Int) (a : Option Addr) (cap : Nat) (w : World) (h : IntsQ w a xs) :
    Calls Tryd.prog 17 #[.slice a xs.length cap, .int .i64 x] w fun e w' => MemTold xs x w e w' := by
  have HR := hideIt h
  clear h
  go_enter Tryd.func17, Tryd.ntmps17
  go_wp2
  go_loopw [5] (fun i wr => ∃ (k : Nat), k ≤ xs.length ∧ i = .int .i64 k ∧ (∀ j (hj : j < xs.length), j < k → xs[j] ≠ x) ∧ Below w.heap.size w wr) (fun i _ => xs.length - (intOf i).toNat)
  case atStart => exact ⟨0, Nat.zero_le _, rfl, fun j _ hj => absurd hj (Nat.not_lt_zero _), Below.refl _ _⟩
  case round =>
    obtain ⟨i, hi, rfl, hno, hb⟩ := hrel
    have HB := hideIt hb
    have HN := hideIt hno
    clear hb hno
    by_cases hin : i < xs.length
    · obtain ⟨g, off, rfl, _, c1⟩ := (HR.out.below HB.out).at hin
      have HM : Hid (xs[i] ∈ xs) := List.getElem_mem hin
      have HE : Hid (∀ y, xs[i] = y → y ≠ x → ∀ j (hj : j < xs.length), j < i + 1 → xs[j] ≠ x) := fun y hy hne j hj hji => by
        by_cases e : j = i
        · subst e; rw [hy]; exact hne
        · exact HN.out j hj (by omega)
      generalize hy : xs[i] = y at c1 HM
      have HY := hideIt hy
      clear hy
      by_cases hp : y = x
      · subst hp
        go_wp2
        go_ret
        exact ⟨true, rfl, ⟨fun _ => HM.out, fun _ => rfl⟩, HB.out⟩
      · have hp' : (y == x) = false := by simp [hp]
        have HP := hideIt hp
        go_wp2
        go_roundw
        case rel => exact ⟨i + 1, by omega, by go_num, HE.out y HY.out HP.out, HB.out⟩
        case measure => simp [intOf]; omega
    · go_wp2
      go_ret
      refine ⟨false, rfl, ⟨fun h => (by cases h), fun h => ?_⟩, HB.out⟩
      obtain ⟨j, hj, e⟩ := List.mem_iff_getElem.1 h
      exact absurd e (HN.out j hj (by omega))
end Go.Proofs.YthphoiadhddggaaDoor
