/-
  An event as plain data. Nothing of the program is named here.
-/
import Derived.Test.YtdncnljcihblbaaDoorPlainA
namespace Go.Proofs.YtdncnljcihblbaaDoor

/-- An event, its seven numbers. -/
structure Ev where
  p : Int
  t : Int
  k : Int
  d : Int
  a : Int
  b : Int
  r : Int

theorem Ev.eq_of {x y : Ev} (h1 : x.p = y.p) (h2 : x.t = y.t) (h3 : x.k = y.k) (h4 : x.d = y.d) (h5 : x.a = y.a) (h6 : x.b = y.b) (h7 : x.r = y.r) : x = y := by
  cases x; cases y; simp_all

/-- What Check says of an event. -/
def fltE (e : Ev) : Int := faultN e.p e.t e.k e.d e.a e.b e.r

/-- An event that may be. -/
structure OkE (e : Ev) : Prop where
  p : 0 ≤ e.p ∧ e.p < 8
  t : 1 ≤ e.t ∧ e.t ≤ 4
  k : 0 ≤ e.k ∧ e.k < 8
  d : 1 ≤ e.d ∧ e.d ≤ 12
  a : -1000000 ≤ e.a ∧ e.a ≤ 1000000
  b : -1000000 ≤ e.b ∧ e.b ≤ 1000000
  r : -1000000 ≤ e.r ∧ e.r ≤ 1000000

theorem okE_of {e : Ev} (h : fltE e = 0) : OkE e := by
  unfold fltE faultN at h
  split at h
  · rename_i h1
    simp only [inB, eightB, numB, Bool.and_eq_true, decide_eq_true_eq] at h1
    obtain ⟨⟨⟨⟨hp, hk⟩, ha⟩, hb⟩, hr⟩ := h1
    split at h
    · rename_i h2
      simp only [kindB, Bool.and_eq_true, decide_eq_true_eq] at h2
      exact ⟨hp, h2.1, hk, h2.2, ha, hb, hr⟩
    · omega
  · omega

end Go.Proofs.YtdncnljcihblbaaDoor
