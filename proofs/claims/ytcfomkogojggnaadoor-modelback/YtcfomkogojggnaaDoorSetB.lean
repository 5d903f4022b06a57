/-
  A call of a set: looked for by halves; put in, or taken out, in place.
-/
import Derived.Test.YtcfomkogojggnaaDoorSetA
namespace Go.Proofs.YtcfomkogojggnaaDoor
open Go.RowKit

theorem place_le (st : List Int) (a : Int) : placeOf st a ≤ st.length := List.countP_le_length
theorem place_lt {st : List Int} {a : Int} (h : st.contains a = true) : placeOf st a < st.length := by
  unfold placeOf
  have hm : a ∈ st := by simpa using h
  rcases Nat.lt_or_ge (st.countP (· < a)) st.length with h | h
  · exact h
  · have := List.countP_eq_length.1 (Nat.le_antisymm List.countP_le_length h) a hm
    simp at this

theorem oneAt_new (w : World) (a : Int) {n : Nat} (h : n = w.heap.size) : OneAt (w.alloc (.cells #[.int .i64 a] 3)) n a := by subst h; exact heap_alloc_new _ _
theorem setM_put {st : List Int} {k a : Int} (hk : k = 6) (h : st.contains a = false) : setM st k a = (insL st (placeOf st a) a, 1) := by
  simp only [setM, hk, h, insL]; simp
theorem setM_drop {st : List Int} {k a : Int} (hk : k = 7) (h : st.contains a = true) : setM st k a = (delL st (placeOf st a), 1) := by
  simp only [setM, hk, h, delL]; simp
theorem setM_has {st : List Int} {k a : Int} (hk : k = 8) (h : st.contains a = true) : setM st k a = (st, 1) := by
  simp only [setM, hk, h]; simp
theorem setM_rest {st : List Int} {k a : Int} (h6 : k = 6 → st.contains a = true) (h7 : k = 7 → st.contains a = false) (h8 : k = 8 → st.contains a = false) : setM st k a = (st, 0) := by
  unfold setM
  rw [if_neg (fun h => by rw [h6 h.1] at h; simp at h), if_neg (fun h => by rw [h7 h.1] at h; simp at h), if_neg (fun h => by rw [h8 h.1] at h; simp at h)]

set_option maxRecDepth 100000 in
set_option maxHeartbeats 2000000 in
theorem callSet_any (st : List Int) (op : Opn) (v : Value) (base : Nat) (w : World) (h : RowAt w base v st) (hs : st.Pairwise (· ≤ ·)) (hlen : st.length ≤ 100000) (hbase : base ≤ w.heap.size) :
    Calls Tryd.prog 67 #[v, op.agg] w fun e w' => ∃ v', e = .returned (.tuple #[v', .int .i64 (setM st op.d op.a).2]) ∧ Turned w base v w' v' (setM st op.d op.a).1 := by
  have hgr := World.grownBy_alloc w op.obj none
  have HR := hideIt (h.new hgr)
  have HG := hideIt hgr
  have HV := hideIt h.lt
  unfold Opn.obj at HR HG
  unfold Opn.agg
  have hpl := place_le st op.a
  have HP := hideIt (@place_lt st op.a)
  obtain ⟨c, hc⟩ : ∃ c, st.contains op.a = c := ⟨_, rfl⟩
  obtain ⟨pl, hpq⟩ : ∃ pl, placeOf st op.a = pl := ⟨_, rfl⟩
  have HS := hideIt (search_any st op.a v base _ HR.out hs hlen)
  rw [hc, hpq] at HS HP
  rw [hpq] at hpl
  have HC := hideIt hc
  clear hc
  clear h hgr
  cases h6 : (op.d == 6)
  · have n6 : op.d ≠ 6 := by simpa using h6
    cases h7 : (op.d == 7)
    · have n7 : op.d ≠ 7 := by simpa using h7
      cases h8 : (op.d == 8)
      · have n8 : op.d ≠ 8 := by simpa using h8
        rw [setM_rest (fun e => absurd e n6) (fun e => absurd e n7) (fun e => absurd e n8)]
        clear n6 n7 n8
        go_enter Tryd.func67, Tryd.ntmps67
        go_wp2_with (go_at_call 82; refine HS.out.mono ?_; rintro e w1 ⟨rfl, q, rfl⟩)
        go_ret2
        exact ⟨_, rfl, (turned_same (HR.out.new (grown_drewN _ q _))).behind (HG.out.trans (grown_drewN _ _ _))⟩
      · have n8 : op.d = 8 := by simpa using h8
        cases c
        · rw [setM_rest (fun e => absurd e n6) (fun e => absurd e n7) (fun _ => HC.out)]
          clear n6 n7 n8
          go_enter Tryd.func67, Tryd.ntmps67
          go_wp2_with (go_at_call 82; refine HS.out.mono ?_; rintro e w1 ⟨rfl, q, rfl⟩)
          go_ret2
          exact ⟨_, rfl, (turned_same (HR.out.new (grown_drewN _ q _))).behind (HG.out.trans (grown_drewN _ _ _))⟩
        · rw [setM_has n8 HC.out]
          clear n6 n7 n8
          go_enter Tryd.func67, Tryd.ntmps67
          go_wp2_with (go_at_call 82; refine HS.out.mono ?_; rintro e w1 ⟨rfl, q, rfl⟩)
          go_ret2
          exact ⟨_, rfl, (turned_same (HR.out.new (grown_drewN _ q _))).behind (HG.out.trans (grown_drewN _ _ _))⟩
    · have n7 : op.d = 7 := by simpa using h7
      have h8 : (op.d == 8) = false := by rw [n7]; rfl
      cases c
      · rw [setM_rest (fun e => absurd e n6) (fun _ => HC.out) (fun e => absurd (n7.symm.trans e) (by decide))]
        clear n6 n7
        go_enter Tryd.func67, Tryd.ntmps67
        go_wp2_with (go_at_call 82; refine HS.out.mono ?_; rintro e w1 ⟨rfl, q, rfl⟩)
        go_ret2
        exact ⟨_, rfl, (turned_same (HR.out.new (grown_drewN _ q _))).behind (HG.out.trans (grown_drewN _ _ _))⟩
      · rw [setM_drop n7 HC.out, hpq]
        have hpos := HP.out rfl
        have hwr : IntKind.i64.wrap ((pl : Int) + 1) = ((pl + 1 : Nat) : Int) := by rw [IntKind.wrap_i64]; omega
        clear n6 n7
        go_enter Tryd.func67, Tryd.ntmps67
        go_wp2_with (first | (go_at_call 82; refine HS.out.mono ?_; rintro e w1 ⟨rfl, q, rfl⟩) | (go_at_call 84; refine (delete_any st pl v base _ (HR.out.new (grown_drewN _ q _)) hpos).mono ?_; rintro e w2 ⟨v', rfl, ht⟩))
        go_ret2
        exact ⟨_, rfl, ht.behind (HG.out.trans (grown_drewN _ _ _))⟩
  · have n6 : op.d = 6 := by simpa using h6
    have h7 : (op.d == 7) = false := by rw [n6]; rfl
    have h8 : (op.d == 8) = false := by rw [n6]; rfl
    cases c
    · rw [setM_put n6 HC.out, hpq]
      clear n6
      go_enter Tryd.func67, Tryd.ntmps67
      go_wp2_with (first | (go_at_call 82; refine HS.out.mono ?_; rintro e w1 ⟨rfl, q, rfl⟩) | (go_at_call 83; refine (insert_any st pl op.a v base _ _ _ ((HR.out.new (grown_drewN _ q _)).new (World.grownBy_alloc _ _ none)) hpl hlen ?c1 ?c2 ?c3).mono ?_))
      case c1 => simp [World.drewN]; omega
      case c2 => exact oneAt_new _ _ (by simp [World.drewN])
      case c3 =>
        intro e
        have := (HV.out _ e).2
        omega
      rintro e w2 ⟨v', rfl, ht⟩
      have HT := hideIt (ht.behind ((HG.out.trans (grown_drewN _ _ _)).trans (World.grownBy_alloc _ _ none)))
      clear ht
      go_wp2
      go_ret2
      exact ⟨_, rfl, HT.out⟩
    · rw [setM_rest (fun _ => HC.out) (fun e => absurd (n6.symm.trans e) (by decide)) (fun e => absurd (n6.symm.trans e) (by decide))]
      clear n6
      go_enter Tryd.func67, Tryd.ntmps67
      go_wp2_with (go_at_call 82; refine HS.out.mono ?_; rintro e w1 ⟨rfl, q, rfl⟩)
      go_ret2
      exact ⟨_, rfl, (turned_same (HR.out.new (grown_drewN _ q _))).behind (HG.out.trans (grown_drewN _ _ _))⟩

end Go.Proofs.YtcfomkogojggnaaDoor
