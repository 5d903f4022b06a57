/-
  The statements of chapter 14: what a base is asked to tell, whatever it is made of; the statements' own played, walked over it.
-/
import Derived.Test.YtaopigjhdkdklaaDoorMvPZ
import Derived.Test.YtaopigjhdkdklaaDoorIsM
import Derived.Test.YtaopigjhdkdklaaDoorJaW
namespace Go.Proofs.YtaopigjhdkdklaaDoor
open Go.RowKit

/-- Asks in memory. -/
def AsksQ (w : World) (a : Option Addr) (l : List (Int × Int × Int)) : Prop := l = [] ∨ ∃ b off, a = some ⟨b, off, none⟩ ∧ b < w.heap.size ∧ ∀ k (_ : k < l.length), w.cell? ⟨b, off + k * 3, none⟩ = some (.int .i64 l[k].1) ∧ w.cell? ⟨b, off + k * 3 + 1, none⟩ = some (.int .i64 l[k].2.1) ∧ w.cell? ⟨b, off + k * 3 + 2, none⟩ = some (.int .i64 l[k].2.2)
/-- Times of begin and commit in memory. -/
def SpansQ (w : World) (a : Option Addr) (n : Nat) (st : MvS) : Prop := n = 0 ∨ ∃ b off, a = some ⟨b, off, none⟩ ∧ b < w.heap.size ∧ ∀ k, k < n → w.cell? ⟨b, off + k * 2, none⟩ = some (.int .i64 (st.bg k)) ∧ w.cell? ⟨b, off + k * 2 + 1, none⟩ = some (.int .i64 (st.en k))
theorem tm_do (c : Bool) (n : Nat) (st : MvS) (p k m : Int) : (doM c n st p k m).tm ≤ st.tm + 1 := by
  unfold doM
  split
  · omega
  split
  · exact Int.le_refl _
  split
  · exact Int.le_refl _
  split
  · exact Int.le_refl _
  split
  · split <;> exact Int.le_refl _
  · exact Int.le_refl _
theorem tm_run (c : Bool) (n : Nat) : ∀ (l : List (Int × Int × Int)) (st : MvS), (runM c n st l).tm ≤ st.tm + l.length
  | [], st => by show st.tm ≤ st.tm + ((0 : Nat) : Int); omega
  | a :: l, st => by
    have h1 := tm_run c n l (doM c n st a.1 a.2.1 a.2.2)
    have h2 := tm_do c n st a.1 a.2.1 a.2.2
    have e : runM c n st (a :: l) = runM c n (doM c n st a.1 a.2.1 a.2.2) l := rfl
    rw [e]
    simp only [List.length_cons]
    omega

end Go.Proofs.YtaopigjhdkdklaaDoor
