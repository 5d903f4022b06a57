/-
  A log in memory.
-/
import Derived.Test.YtdncnljcihblbaaDoorCoW
import Derived.Test.YtdncnljcihblbaaDoorDcW
import Derived.Deep.AppendLies
namespace Go.Proofs.YtdncnljcihblbaaDoor
open Go.RowKit

theorem grown_of_below {W W' : World} (h : Below W.heap.size W W') (row : Option Nat) : W.grownBy W' row := ⟨h.os, h.tape, h.output, h.size, fun k hk _ => h.block k hk⟩
theorem grown_set (W : World) (p : Addr) (v : Value) : W.grownBy (W.setCell p v) (some p.block) :=
  ⟨rfl, rfl, rfl, by simp [World.setCell], fun k _ hne => Below.heap_setCell W p v k (fun e => hne (by rw [e]))⟩
theorem grown_trans {a b c : World} {row : Option Nat} (h : a.grownBy b row) (k : b.grownBy c row) : a.grownBy c row :=
  ⟨k.os.trans h.os, k.tape.trans h.tape, k.output.trans h.output, Nat.le_trans h.size k.size, fun i hi hne => (k.block i (Nat.lt_of_lt_of_le hi h.size) hne).trans (h.block i hi hne)⟩
theorem below_grown {w W W' : World} {G : Nat} (h : Below w.heap.size w W) (k : W.grownBy W' (some G)) (hG : w.heap.size ≤ G) : Below w.heap.size w W' := h.grown k h.size (fun _ e => by cases e; exact hG)

/-- A slice does not lie in a block. -/
def Off (v : Value) (G : Nat) : Prop := ∀ b o n c, v = .slice (some ⟨b, o, none⟩) n c → b ≠ G
theorem ByQ.grown {W W' : World} {v : Value} {l : List Nat} {G : Nat} (h : ByQ W v l) (ho : Off v G) (hg : W.grownBy W' (some G)) : ByQ W' v l := by
  obtain ⟨h1, h2 | ⟨b, o, c, h3, h4, h5, h6⟩⟩ := h
  · exact ⟨h1, Or.inl h2⟩
  · refine ⟨h1, Or.inr ⟨b, o, c, h3, h4, Nat.lt_of_lt_of_le h5 hg.size, fun i hi => ?_⟩⟩
    exact hg.cell (h6 i hi) (fun e => ho b o _ c h3 (by simpa using e))

/-- A slice lies in a block of bytes. -/
def TyB (W : World) (v : Value) : Prop := ∀ b o n c, v = .slice (some ⟨b, o, none⟩) n c → ∃ cur fr, W.heap[b]? = some (.cells cur 5 fr)
theorem TyB.off {W : World} {v : Value} (h : TyB W v) {k : Nat} {cur : Array Value} {t : TypeId} {fr : Nat × Nat} (hk : W.heap[k]? = some (.cells cur t fr)) (ht : t ≠ 5) : Off v k := by
  intro b o n c e hbk
  subst hbk
  obtain ⟨cur', fr', h2⟩ := h b o n c e
  rw [hk] at h2
  cases h2
  exact ht rfl
theorem TyB.grown {W W' : World} {v : Value} {row : Option Nat} (h : TyB W v) (hg : W.grownBy W' row) (ho : ∀ k, row = some k → Off v k) : TyB W' v := by
  intro b o n c e
  obtain ⟨cur, fr, h2⟩ := h b o n c e
  refine ⟨cur, fr, ?_⟩
  rw [← h2]
  exact hg.block b (Array.getElem?_eq_some_iff.1 h2).1 (fun hr => (ho b hr.symm) b o n c e rfl)
theorem own_ty {W : World} {base : Nat} {v : Value} {n : Nat} {xs : List Value} (h : W.ownsRow base 5 1 v n xs) : TyB W v := by
  obtain ⟨_, ⟨rfl, _⟩ | ⟨g, c, cur, rfl, _, h5, _⟩⟩ := h
  · intro b o n c e; cases e
  · intro b o n c e; cases e; exact ⟨cur, _, h5⟩

/-- A log: its frames, how many events, how many bytes are sure. -/
structure LogIn (W : World) (G : Nat) (l : List Ev) (s : Nat) : Prop where
  ok : OkL l
  few : l.length ≤ 120
  le : s ≤ (framesL l).length
  fr : ∃ v, W.cell? ⟨G, 0, none⟩ = some v ∧ ByQ W v (framesL l) ∧ Off v G ∧ TyB W v
  ev : W.cell? ⟨G, 1, none⟩ = some (.int .i64 (l.length : Nat))
  su : W.cell? ⟨G, 2, none⟩ = some (.int .i64 (s : Nat))
  fz : ∀ o, W.frozen? ⟨G, o, none⟩ = false
  lt : G < W.heap.size

theorem LogIn.kept {W W' : World} {G : Nat} {l : List Ev} {s : Nat} (h : LogIn W G l s) {row : Option Nat} (hg : W.grownBy W' row) (hr : ∀ k, row = some k → k ≠ G ∧ ∀ v, W.cell? ⟨G, 0, none⟩ = some v → Off v k) : LogIn W' G l s := by
  have hne : some G ≠ row := fun e => (hr G e.symm).1 rfl
  obtain ⟨v, v1, v2, v3, v4⟩ := h.fr
  refine ⟨h.ok, h.few, h.le, ⟨v, hg.cell v1 hne, ?_, v3, v4.grown hg (fun k e => (hr k e).2 v v1)⟩, hg.cell h.ev hne, hg.cell h.su hne, fun o => (hg.frozen_far ⟨G, o, none⟩ h.lt hne).trans (h.fz o), Nat.lt_of_lt_of_le h.lt hg.size⟩
  cases row with
  | none =>
    obtain ⟨h1, h2 | ⟨b, o, c, h3, h4, h5, h6⟩⟩ := v2
    · exact ⟨h1, Or.inl h2⟩
    · exact ⟨h1, Or.inr ⟨b, o, c, h3, h4, Nat.lt_of_lt_of_le h5 hg.size, fun i hi => hg.cell (h6 i hi) (by simp)⟩⟩
  | some k => exact v2.grown ((hr k rfl).2 v v1) hg
theorem LogIn.below {W W' : World} {G : Nat} {l : List Ev} {s : Nat} (h : LogIn W G l s) (hb : Below W.heap.size W W') : LogIn W' G l s := h.kept (grown_of_below hb none) (fun k e => by cases e)
theorem own_off {w W : World} {G : Nat} {v : Value} {n : Nat} {xs : List Value} (hG : G < w.heap.size) (h : W.ownsRow w.heap.size 5 1 v n xs) : Off v G := by
  intro b o m c e
  subst e
  have := (h.lt b rfl).1
  omega
theorem logIn_new (w : World) : LogIn (w.alloc (.cells #[.slice none 0 0, .int .i64 0, .int .i64 0] 46)) w.heap.size [] 0 where
  ok := fun e he => (List.not_mem_nil he).elim
  few := by simp
  le := by simp
  fr := ⟨.slice none 0 0, by simp [go_sem], ⟨fun _ h => (List.not_mem_nil h).elim, Or.inl ⟨rfl, none, 0, rfl, fun _ => rfl⟩⟩, (fun b o n c e => by cases e), (fun b o n c e => by cases e)⟩
  ev := by simp [go_sem]
  su := by simp [go_sem]
  fz := fun o => by simp [go_sem]
  lt := by simp [go_sem]

end Go.Proofs.YtdncnljcihblbaaDoor
