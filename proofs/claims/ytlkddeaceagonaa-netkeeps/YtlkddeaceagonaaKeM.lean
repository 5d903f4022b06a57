/-
  The statement NetKeeps: what it wants, in memory.
-/
import Derived.Test.YtlkddeaceagonaaNtP
import Derived.Test.YtlkddeaceagonaaNsP
import Derived.Test.YtlkddeaceagonaaIqM
import Derived.Test.YtlkddeaceagonaaNqW
namespace Go.Proofs.Ytlkddeaceagonaa
open Go.RowKit

theorem infoI : (Try.prog.info? 3).map (fun i => (i.zero, i.size, i.bytes)) = some (some (Value.int .i64 0), 1, 8) := by kernel_rfl
def intC (l : List Int) : List Value := l.map fun x => .int .i64 x
theorem intC_len (l : List Int) : (intC l).length = l.length := by simp [intC]
theorem intC_one {l : List Int} {u : Value} (h : u ∈ intC l) : u.oneCell' = true := by
  obtain ⟨x, _, rfl⟩ := List.mem_map.1 h
  rfl
/-- Numbers in a block of numbers. -/
def IntsT (w : World) (a : Option Addr) (l : List Int) : Prop := l = [] ∨ ∃ g off, a = some ⟨g, off, none⟩ ∧ tagD w.heap[g]? = 4 ∧ ∀ j (h : j < l.length), w.cell? ⟨g, off + j, none⟩ = some (.int .i64 l[j])
theorem IntsT.keep {w w' : World} {a : Option Addr} {l : List Int} (h : IntsT w a l) (hk : ∀ b : Nat, tagD w.heap[b]? = 4 → w'.heap[b]? = w.heap[b]?) : IntsT w' a l :=
  h.imp id fun ⟨g, off, e, ht, h⟩ => ⟨g, off, e, by rw [hk g ht]; exact ht, fun j hj => (World.cell?_of_block (a := ⟨g, off + j, none⟩) (hk g ht)).trans (h j hj)⟩
theorem tag_lt {w : World} {b x : Nat} (h : tagD w.heap[b]? = x + 1) : b < w.heap.size := by
  rcases Nat.lt_or_ge b w.heap.size with h' | h'
  · exact h'
  · rw [Array.getElem?_eq_none h'] at h; cases h
theorem IntsT.below {w w' : World} {a : Option Addr} {l : List Int} (h : IntsT w a l) (hb : Below w.heap.size w w') : IntsT w' a l := h.keep fun b hb' => hb.block b (tag_lt hb')
theorem IntsT.at {w : World} {a : Option Addr} {l : List Int} (h : IntsT w a l) {k : Nat} (hk : k < l.length) : ∃ g off, a = some ⟨g, off, none⟩ ∧ w.cell? ⟨g, off + k, none⟩ = some (.int .i64 l[k]) := by
  rcases h with rfl | ⟨g, off, e, _, h⟩
  · simp at hk
  · exact ⟨g, off, e, h k hk⟩
theorem ints_of_own {w : World} {base : Nat} {v : Value} {l : List Int} (h : w.ownsRow base 3 1 v l.length (intC l)) : ∃ a cap, v = .slice a l.length cap ∧ l.length ≤ cap ∧ IntsT w a l := by
  rcases own_cells h with ⟨rfl, h0⟩ | ⟨g, cap, rfl, hc, hg, hk⟩
  · have : l = [] := List.eq_nil_of_length_eq_zero h0
    subst this
    exact ⟨none, 0, rfl, Nat.le_refl _, .inl rfl⟩
  · refine ⟨_, cap, rfl, hc, .inr ⟨g, 0, rfl, own_tagD h rfl, fun j hj => ?_⟩⟩
    rw [Nat.zero_add, hk j (by omega)]
    simp [intC, hj]
theorem run_appI {w : World} {base B : Nat} {v : Value} {l : List Int} {x : Int} (hown : w.ownsRow base 3 1 v l.length (intC l)) (hB : w.cell? ⟨B, 0, none⟩ = some (.int .i64 x)) (hb : base ≤ w.heap.size) (hl : l.length ≤ 1000) (ty : TypeId) :
    ∃ v' w', (Builtin.append_ #[32, 32] ty #[v, .slice (some ⟨B, 0, none⟩) 1 1]).run Try.prog w = .ok v' w' ∧ w'.ownsRow base 3 1 v' (l ++ [x]).length (intC (l ++ [x])) ∧ w.grownBy w' v.ownBlock ∧ (v'.ownBlock = v.ownBlock ∨ v'.ownBlock = some w.heap.size) := by
  obtain ⟨i, hi, hz, hsz, hby⟩ := info_parts' infoI
  obtain ⟨v', w', hr, ho, hg, _, hob⟩ := run_append_own_at (P := Try.prog) (w := w) base 32 ty 3 i _ 1 8 Try.underlying32 hi hz hsz hby rfl (by decide) v _ _ hown ⟨B, 0, none⟩ 1 1 [.int .i64 x] rfl (by
    intro j u hj
    rw [Addr.add_lit, Nat.zero_add]
    match j, hj with
    | 0, hj => simp at hj; subst hj; exact hB
    | j + 1, hj => simp at hj) (by simp [Value.oneCell']) (by unfold maxLen; omega) (by omega) hb
  refine ⟨v', w', hr, ?_, hg, hob⟩
  rw [show intC (l ++ [x]) = intC l ++ [.int .i64 x] by simp [intC], List.length_append]
  exact ho
def endI (g off cap k : Nat) : Addr := if cap = k then ⟨g, off, none⟩ else ⟨g, off + k, none⟩
/-- What is wanted without one of them: a row of its own, or the first ones. -/
theorem run_cutI {w : World} {g off cap k : Nat} {l : List Int} (h : IntsT w (some ⟨g, off, none⟩) l) (hk : k < l.length) (hc : l.length ≤ cap) (hl : l.length ≤ 1000) (ty : TypeId) :
    ∃ a' cap' w', (Builtin.append_ #[32, 32] ty #[.slice (some ⟨g, off, none⟩) k k, .slice (some (endI g off cap (k + 1))) (l.length - (k + 1)) (cap - (k + 1))]).run Try.prog w = .ok (.slice a' (l.length - 1) cap') w' ∧ IntsT w' a' (l.eraseIdx k) ∧ l.length - 1 ≤ cap' ∧ Below w.heap.size w w' := by
  obtain ⟨i, hi, hz, hsz, hby⟩ := info_parts' infoI
  obtain ⟨g', off', e, ht, hcell⟩ := h.resolve_left (fun e => by rw [e] at hk; simp at hk)
  cases e
  have hN : (l.eraseIdx k).length = l.length - 1 := List.length_eraseIdx_of_lt hk
  by_cases hm : l.length = k + 1
  · have hr := run_append_room_cells (P := Try.prog) w 32 ty 3 i Try.underlying32 hi g off k k (endI g off cap (k + 1)) (l.length - (k + 1)) (cap - (k + 1)) [] (by rw [hm]; simp) (by simp) (by simp) (by omega) (by simp) (by simp)
    refine ⟨some ⟨g, off, none⟩, k, w, ?_, .inr ⟨g, off, rfl, ht, fun j hj => ?_⟩, by omega, Below.refl _ _⟩
    · rw [hr, show k + (l.length - (k + 1)) = l.length - 1 by omega]; rfl
    · rw [List.getElem_eraseIdx_of_lt hj (by omega)]
      exact hcell j (by omega)
  · have hend : endI g off cap (k + 1) = ⟨g, off + (k + 1), none⟩ := by unfold endI; rw [if_neg (by omega)]
    rw [hend]
    obtain ⟨v', w', hr, ho, hg⟩ := run_append_arg_grows (P := Try.prog) w 32 ty 3 i _ 1 8 Try.underlying32 hi hz hsz hby rfl (by decide) ⟨g, off, none⟩ k k (intC (l.take k)) (by rw [intC_len, List.length_take]; omega) (fun j u hj => by
        rw [Addr.add_lit]
        have hj' := (List.getElem?_eq_some_iff.1 hj).1
        rw [intC_len, List.length_take] at hj'
        rw [hcell j (by omega), ← hj]
        simp [intC, show j < k by omega, show j < l.length by omega]) ⟨g, off + (k + 1), none⟩ (l.length - (k + 1)) (cap - (k + 1)) (intC (l.drop (k + 1))) (by rw [intC_len, List.length_drop]; omega) (fun j u hj => by
        rw [Addr.add_lit]
        have hj' := (List.getElem?_eq_some_iff.1 hj).1
        rw [intC_len, List.length_drop] at hj'
        have := hcell (k + 1 + j) (by omega)
        rw [show off + (k + 1) + j = off + (k + 1 + j) by omega, this, ← hj]
        simp [intC, show k + 1 + j < l.length by omega]) (by omega) (by unfold maxLen; omega) (by omega)
    rw [show k + (l.length - (k + 1)) = (l.eraseIdx k).length by omega, show intC (l.take k) ++ intC (l.drop (k + 1)) = intC (l.eraseIdx k) by rw [List.eraseIdx_eq_take_drop_succ]; simp [intC]] at ho
    obtain ⟨a', cap', rfl, hcc, hi'⟩ := ints_of_own ho
    rw [hN] at hr hcc
    exact ⟨a', cap', w', hr, hi', hcc, below_grown hg⟩
end Go.Proofs.Ytlkddeaceagonaa
