/-
  The document's Step, whatever the object: as the plain one; and the statement on Step: walked.
-/
import Derived.Test.YtcfomkogojggnaaDoorRefT
import Derived.Deep.QuietTactic
import Derived.BigQuiet
namespace Go.Proofs.YtcfomkogojggnaaDoor
open Go.RowKit

theorem knows_cases {o k : Int} (h : knowsB o k = true) : (o = 1 ∧ (k = 1 ∨ k = 2 ∨ k = 3)) ∨ (o = 2 ∧ (k = 4 ∨ k = 5)) ∨ (o = 3 ∧ (k = 6 ∨ k = 7 ∨ k = 8)) ∨ (o = 4 ∧ (k = 9 ∨ k = 10)) ∨ (o = 5 ∧ (k = 9 ∨ k = 10)) ∨ (o = 6 ∧ (k = 11 ∨ k = 12)) := by
  unfold knowsB at h
  simp at h
  omega

theorem HasInts.one {w : World} {v : Value} {x : Int} (h : HasInts w v [x]) : ∃ g off cap, v = .slice (some ⟨g, off, none⟩) 1 cap ∧ w.cell? ⟨g, off, none⟩ = some (.int .i64 x) := by
  obtain ⟨a, cap, rfl, _, _, _, h | ⟨g, off, rfl, hc⟩⟩ := h
  · cases h
  · exact ⟨g, off, cap, rfl, hc 0 (by simp)⟩

theorem HasInts.some {w : World} {v : Value} {st : List Int} (h : HasInts w v st) (h0 : 0 < st.length) : ∃ g off cap, v = .slice (some ⟨g, off, none⟩) st.length cap := by
  obtain ⟨a, cap, rfl, _, _, _, h | ⟨g, off, rfl, hc⟩⟩ := h
  · subst h; simp at h0
  · exact ⟨g, off, cap, rfl⟩

theorem refStep_any (o k a b : Int) (st : List Int) (v : Value) (w : World) (hv : HasInts w v st) (hs : o = 3 → st.Pairwise (· < ·)) (hlen : st.length ≤ 1000) :
    Calls Tryd.prog 23 #[.int .i64 o, v, .int .i64 k, .int .i64 a, .int .i64 b] w fun e w' => StepTold w (stepM o st k a b) e w' := by
  cases hk : knowsB o k
  · exact refStep_unknown o k a b st v w hk
  · by_cases h1 : oneB o = true ∧ st.length ≠ 1
    · obtain ⟨A, cap, rfl, _⟩ := hv
      exact refStep_len o k a b st A cap w hk h1.1 h1.2
    · have hone : oneB o = true → ∃ x, st = [x] := fun e => by
        have : st.length = 1 := by
          by_cases h : st.length = 1
          · exact h
          · exact absurd ⟨e, h⟩ h1
        exact List.length_eq_one_iff.1 this
      rcases knows_cases hk with ⟨rfl, h⟩ | ⟨rfl, h⟩ | ⟨rfl, h⟩ | ⟨rfl, h⟩ | ⟨rfl, h⟩ | ⟨rfl, h⟩
      · obtain ⟨x, rfl⟩ := hone rfl
        obtain ⟨g, off, cap, rfl, hc⟩ := hv.one
        rw [stepM_reg hk]
        rcases h with rfl | rfl | rfl
        · exact refStep_read a b x g off cap w hc
        · exact refStep_write a b x g off cap w hc
        · cases hx : (x != a)
          · have e : x = a := by simpa using hx
            rw [show regM x 3 a b = (b, 1) by simp [regM, e]]
            exact refStep_swap a b x g off cap w hc hx
          · have e : x ≠ a := by simpa using hx
            rw [show regM x 3 a b = (x, 0) by simp [regM, e]]
            exact refStep_stay a b x g off cap w hc hx
      · obtain ⟨x, rfl⟩ := hone rfl
        obtain ⟨g, off, cap, rfl, hc⟩ := hv.one
        rw [stepM_cnt hk]
        rcases h with rfl | rfl
        · exact refStep_add a b x g off cap w hc
        · exact refStep_get a b x g off cap w hc
      · rw [stepM_set hk]
        rcases h with rfl | rfl | rfl
        · exact refStep_put a b st v w hv (hs rfl) hlen
        · exact refStep_drop a b st v w hv (hs rfl) hlen
        · exact refStep_has a b st v w hv (hs rfl) hlen
      · rw [stepM_que hk]
        rcases h with rfl | rfl
        · exact refStep_push 4 a b st v w (.inl rfl) hv hlen
        · by_cases h0 : st = []
          · subst h0
            obtain ⟨A, cap, rfl, _⟩ := hv
            exact refStep_none 4 a b A cap w (.inl rfl)
          · have hpos : 0 < st.length := List.length_pos_iff.2 h0
            rw [queM_pop (by decide) hpos]
            obtain ⟨g, off, cap, rfl⟩ := hv.some hpos
            by_cases hc : cap = 1
            · subst hc
              have hl : st.length = 1 := by
                obtain ⟨a', cap', e, h1, _⟩ := hv
                obtain ⟨_, rfl⟩ : some ⟨g, off, none⟩ = a' ∧ 1 = cap' := by simpa using e
                omega
              obtain ⟨x, rfl⟩ := List.length_eq_one_iff.1 hl
              obtain ⟨g', off', cap', e, hc⟩ := hv.one
              obtain ⟨⟨rfl, rfl⟩, _⟩ : (g = g' ∧ off = off') ∧ 1 = cap' := by simpa using e
              exact refStep_queue1 a b x g off w hc
            · exact refStep_queue a b st g off cap w hv hpos hlen hc
      · rw [stepM_sta hk]
        rcases h with rfl | rfl
        · exact refStep_push 5 a b st v w (.inr rfl) hv hlen
        · by_cases h0 : st = []
          · subst h0
            obtain ⟨A, cap, rfl, _⟩ := hv
            exact refStep_none 5 a b A cap w (.inr rfl)
          · have hpos : 0 < st.length := List.length_pos_iff.2 h0
            rw [staM_pop (by decide) hpos]
            obtain ⟨g, off, cap, rfl⟩ := hv.some hpos
            exact refStep_stack a b st g off cap w hv hpos hlen
      · obtain ⟨x, rfl⟩ := hone rfl
        obtain ⟨g, off, cap, rfl, hc⟩ := hv.one
        rw [stepM_mut hk]
        rcases h with rfl | rfl
        · cases hx : (x != 0)
          · have e : x = 0 := by simpa using hx
            rw [show mutM x 11 = some 1 by simp [mutM, e]]
            exact refStep_lock a b x g off cap w hc hx
          · have e : x ≠ 0 := by simpa using hx
            rw [show mutM x 11 = none by simp [mutM, e]]
            exact refStep_locked a b x g off cap w hc hx
        · cases hx : (x != 1)
          · have e : x = 1 := by simpa using hx
            rw [show mutM x 12 = some 0 by simp [mutM, e]]
            exact refStep_unlock a b x g off cap w hc hx
          · have e : x ≠ 1 := by simpa using hx
            rw [show mutM x 12 = none by simp [mutM, e]]
            exact refStep_unlocked a b x g off cap w hc hx

end Go.Proofs.YtcfomkogojggnaaDoor
