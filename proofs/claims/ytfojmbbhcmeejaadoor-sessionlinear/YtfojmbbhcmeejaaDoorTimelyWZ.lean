/-
  Package linear's isTimely: walked.
  Package linear's Shows: walked.
-/
import Derived.Test.YtfojmbbhcmeejaaDoorWholeW
import Derived.Deep.RegionHeld3
namespace Go.Proofs.YtfojmbbhcmeejaaDoor
open Go.RowKit

def TimelyTo (ops : List Opn) (ord : List Int) (k : Nat) : Prop := ∀ j, (hj : j < ord.length) → j < k → ∀ i, (hi : i < j) → beforeB (opI ops ord[j]) (opI ops (ord[i]'(Nat.lt_trans hi hj))) = false
def TimelyAt (ops : List Opn) (ord : List Int) (k m : Nat) : Prop := ∀ (hk : k < ord.length) i, (hi : i < k) → i < m → beforeB (opI ops ord[k]) (opI ops (ord[i]'(Nat.lt_trans hi hk))) = false
theorem timelyTo_zero (ops : List Opn) (ord : List Int) : TimelyTo ops ord 0 := fun j _ h => by omega
theorem timelyAt_zero (ops : List Opn) (ord : List Int) (k : Nat) : TimelyAt ops ord k 0 := fun _ i _ h => by omega
theorem TimelyTo.succ {ops : List Opn} {ord : List Int} {k : Nat} (h : TimelyTo ops ord k) (ha : TimelyAt ops ord k k) : TimelyTo ops ord (k + 1) := fun j hj hjk i hi => by
  by_cases e : j < k
  · exact h j hj e i hi
  · obtain rfl : j = k := by omega
    exact ha hj i hi hi
theorem TimelyAt.succ {ops : List Opn} {ord : List Int} {k m : Nat} (h : TimelyAt ops ord k m) (hk : k < ord.length) (hm : m < k) (hb : beforeB (opI ops ord[k]) (opI ops (ord[m]'(Nat.lt_trans hm hk))) = false) : TimelyAt ops ord k (m + 1) := fun hk' i hi him => by
  by_cases e : i < m
  · exact h hk' i hi e
  · obtain rfl : i = m := by omega
    exact hb

end Go.Proofs.YtfojmbbhcmeejaaDoor

namespace Go.Proofs.YtfojmbbhcmeejaaDoor
open Go.RowKit

theorem told_zero {l : List Opn} (h : Told l 0) : l.length ≤ 40 ∧ ∀ j, (hj : j < l.length) → opFaultN (l.take j) l[j] = 0 := by
  rcases h with ⟨_, h⟩ | ⟨h1, h2, _⟩ | ⟨_, k, hk, _, hne, h⟩
  · cases h
  · exact ⟨h1, h2⟩
  · exact absurd h.symm hne
theorem fault_zero {l : List Opn} {x : Opn} (h : opFaultN l x = 0) : rangeB x = true ∧ kindB x.d = true ∧ orderB l x = true ∧ l.any (fun y => shareB y x) = false ∧ l.any (fun y => clashB y x) = false := by
  unfold opFaultN at h
  cases h1 : rangeB x
  · simp [h1] at h
  · cases h2 : kindB x.d
    · simp [h1, h2] at h
    · cases h3 : orderB l x
      · simp [h1, h2, h3] at h
      · cases h4 : l.any (fun y => shareB y x)
        · cases h5 : l.any (fun y => clashB y x)
          · exact ⟨rfl, rfl, rfl, rfl, rfl⟩
          · rw [h1, h2, h3, h4, h5] at h; simp at h
        · rw [h1, h2, h3, h4] at h; simp at h
theorem told_keys {l : List Opn} (h : Told l 0) : ∀ op ∈ l, 0 ≤ op.k ∧ op.k < 8 := fun op hop => by
  obtain ⟨j, hj, rfl⟩ := List.getElem_of_mem hop
  have := (fault_zero ((told_zero h).2 j hj)).1
  simp [rangeB, inB, eightB] at this
  omega
theorem told_keysN {l : List Opn} (h : Told l 0) : ∀ n, n < l.length → 0 ≤ (opN l n).k ∧ (opN l n).k < 8 := fun n hn => by
  rw [opN_at hn]; exact told_keys h _ (List.getElem_mem hn)

/-- What Shows tells. -/
def ShTold (o : Int) (ops : List Opn) (ord : List Int) (w : World) (e : Ending) (w' : World) : Prop :=
  Below w.heap.size w w' ∧ ((objB o = false ∧ e = .returned (.tuple #[.bool false, toldV 1])) ∨ (objB o = true ∧ ∃ n, n ≠ 0 ∧ CkTold o ops n ∧ e = .returned (.tuple #[.bool false, toldV n])) ∨
    (objB o = true ∧ CkTold o ops 0 ∧ ∃ b, (b = true ↔ ShowsM o ops ord) ∧ e = .returned (.tuple #[.bool b, .nilIface])))

theorem showsM_of {o : Int} {ops : List Opn} {ord : List Int} {z : Int} (hw : WholeP ops ord) (ht : TimelyTo ops ord ord.length) (hr : RunTold o ops ord z) : (z == -1) = true ↔ ShowsM o ops ord := by
  rw [beq_iff_eq]
  constructor
  · rintro rfl
    refine ⟨hw.ok.1, hw.ok.2, hw.whole, fun j hj i hi => ht j hj hj i hi, ?_⟩
    rcases hr with ⟨k, _, _, _, h⟩ | ⟨h, _⟩
    · omega
    · exact h
  · intro h
    rcases hr with ⟨k, hk, _, h2, _⟩ | ⟨_, h⟩
    · rw [h.fine k hk] at h2; cases h2
    · exact h
theorem not_whole {o : Int} {ops : List Opn} {ord : List Int} (h : ¬ WholeP ops ord) : ¬ ShowsM o ops ord := fun hs => h ⟨⟨hs.range, hs.once⟩, hs.whole⟩
theorem not_timely {o : Int} {ops : List Opn} {ord : List Int} (h : ¬ TimelyTo ops ord ord.length) : ¬ ShowsM o ops ord := fun hs => h (fun j hj _ i hi => hs.timely j hj i hi)

end Go.Proofs.YtfojmbbhcmeejaaDoor
