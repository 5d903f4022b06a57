/-
  A log's functions, the rest: walked.
-/
import Derived.Test.YtdncnljcihblbaaDoorLgW
namespace Go.Proofs.YtdncnljcihblbaaDoor
open Go.RowKit

theorem own_mono {w : World} {base base' : Nat} {e : TypeId} {z : Nat} {v : Value} {n : Nat} {xs : List Value} (h : w.ownsRow base e z v n xs) (hb : base' ≤ base) : w.ownsRow base' e z v n xs := by
  obtain ⟨h1, h2 | ⟨g, c, cur, h3, h4, h5⟩⟩ := h
  · exact ⟨h1, Or.inl h2⟩
  · exact ⟨h1, Or.inr ⟨g, c, cur, h3, Nat.le_trans hb h4, h5⟩⟩

theorem new_cell {W : World} {c0 c1 : Value} {t : TypeId} : (W.alloc (.cells #[c0, c1] t)).cell? ⟨W.heap.size, 0, none⟩ = some c0 ∧ (W.alloc (.cells #[c0, c1] t)).cell? ⟨W.heap.size, 1, none⟩ = some c1 := ⟨by simp [go_sem], by simp [go_sem]⟩

theorem sync_any (G : Nat) (l : List Ev) (s : Nat) (w : World) (hL : LogIn w G l s) :
    Calls Tryd.prog 17 #[.pointer (some ⟨G, 0, none⟩)] w fun r w' => r = .returned (.tuple #[]) ∧ LogIn w' G l (framesL l).length ∧ w.grownBy w' (some G) := by
  obtain ⟨v0, hv0, hq0, hoff, hty0⟩ := hL.fr
  obtain ⟨a0, k0, rfl⟩ := hq0.form
  have h1 := hL.ev
  have h2 := hL.su
  have h4 := hL.fz
  have hlt := hL.lt
  have HR : Hid (LogIn (w.setCell ⟨G, 2, none⟩ (.int .i64 ((framesL l).length : Nat))) G l (framesL l).length ∧ w.grownBy (w.setCell ⟨G, 2, none⟩ (.int .i64 ((framesL l).length : Nat))) (some G)) := by
    have g := grown_set w ⟨G, 2, none⟩ (.int .i64 ((framesL l).length : Nat))
    exact ⟨⟨hL.ok, hL.few, Nat.le_refl _, ⟨_, by simp [go_sem, hv0], hq0.grown hoff g, hoff, hty0.grown g (fun k e => by cases e; exact hoff)⟩, by simp [go_sem, h1], by simp [go_sem, h2], fun o => by simp [go_sem, h4], Nat.lt_of_lt_of_le hlt g.size⟩, g⟩
  clear hq0 hL
  go_enter Tryd.func17, Tryd.ntmps17
  go_wp2
  go_end0
  exact ⟨rfl, HR.out.1, HR.out.2⟩

theorem size_any (G : Nat) (l : List Ev) (s : Nat) (w : World) (hL : LogIn w G l s) :
    Calls Tryd.prog 18 #[.pointer (some ⟨G, 0, none⟩)] w fun r w' => r = .returned (.tuple #[.int .i64 ((framesL l).length : Nat), .int .i64 (s : Nat)]) ∧ ∃ n, w' = w.drewN n := by
  obtain ⟨v0, hv0, hq0, hoff, hty0⟩ := hL.fr
  obtain ⟨a0, k0, rfl⟩ := hq0.form
  have h2 := hL.su
  clear hq0 hL
  go_enter Tryd.func18, Tryd.ntmps18
  go_wp2_with fail
  go_quiet (fail)
  go_wp2
  go_ret2
  exact ⟨rfl, _, rfl⟩

set_option maxHeartbeats 1000000 in
set_option maxRecDepth 100000 in
theorem crash_bad (G : Nat) (l : List Ev) (s : Nat) (k : Int) (vt : Value) (w : World) (hL : LogIn w G l s) (hk : k < 0 ∨ ((framesL l).length : Int) - s < k) :
    Calls Tryd.prog 19 #[.pointer (some ⟨G, 0, none⟩), .int .i64 k, vt] w fun r w' => r = .returned (.tuple #[.slice none 0 0, .iface 28 (.int .i64 2)]) ∧ Below w.heap.size w w' := by
  have HS := hideIt (size_any G l s w hL)
  have hle := hL.le
  have hfl := frames_len hL.ok
  have hfew := hL.few
  clear hL
  by_cases h0 : k < 0
  · go_enter Tryd.func19, Tryd.ntmps19
    go_wp2_with fail
    refine HS.out.mono ?_
    rintro x w1 ⟨rfl, n, rfl⟩
    go_wp2
    go_ret2
    exact ⟨rfl, below_drewN (Below.refl _ _) _⟩
  · have hk2 : ((framesL l).length : Int) - s < k := by omega
    clear hk
    go_enter Tryd.func19, Tryd.ntmps19
    go_wp2_with fail
    refine HS.out.mono ?_
    rintro x w1 ⟨rfl, n, rfl⟩
    go_wp2
    go_ret2
    exact ⟨rfl, below_drewN (Below.refl _ _) _⟩

theorem ByQ.cut {w : World} {a : Option Addr} {n c : Nat} {l : List Nat} (h : ByQ w (.slice a n c) l) (m : Nat) (hm : m ≤ l.length) : ByQ w (.slice a m c) (l.take m) := by
  obtain ⟨h1, ⟨h3, a', c', h2, hn⟩ | ⟨b, o, c', h3, h4, h5, h6⟩⟩ := h
  · cases h2; subst h3
    have : m = 0 := by simpa using hm
    subst this
    exact ⟨h1, Or.inl ⟨rfl, a, c, rfl, hn⟩⟩
  · cases h3
    refine ⟨h1.take m, Or.inr ⟨b, o, c, ?_, ?_, h5, h6.take m⟩⟩
    · rw [List.length_take, Nat.min_eq_left hm]
    · rw [List.length_take]; omega

set_option maxHeartbeats 1000000 in
set_option maxRecDepth 100000 in
theorem crash_ok (G : Nat) (l : List Ev) (s k : Nat) (vt : Value) (tl : List Nat) (w : World) (hL : LogIn w G l s) (hk : k ≤ (framesL l).length - s) (hq : ByQ w vt tl) (htl : tl.length ≤ 100000) :
    Calls Tryd.prog 19 #[.pointer (some ⟨G, 0, none⟩), .int .i64 (k : Nat), vt] w fun r w' => ∃ v, r = .returned (.tuple #[v, .nilIface]) ∧ w'.ownsRow w.heap.size 5 1 v ((framesL l).take (s + k) ++ tl).length (byCs ((framesL l).take (s + k) ++ tl)) ∧ Below w.heap.size w w' := by
  have HS := hideIt (size_any G l s w hL)
  have hle := hL.le
  have hfl := frames_len hL.ok
  have hfew := hL.few
  obtain ⟨v0, hv0, hq0, hoff, hty0⟩ := hL.fr
  obtain ⟨a0, k0, rfl⟩ := hq0.form
  obtain ⟨at', kt, rfl⟩ := hq.form
  have HC := hideIt (hq0.cut (s + k) (by omega))
  have HT := hideIt hq
  have hk0 : (framesL l).length ≤ k0 := by
    obtain ⟨_, ⟨h3, _⟩ | ⟨b, o, c', h3, h4, _⟩⟩ := hq0
    · rw [h3]; simp
    · cases h3; exact h4
  have hk' : (k : Int) ≤ ((framesL l).length : Int) - s := by omega
  have HCo : Hid (∀ (A : Nat) (W : World), A < W.heap.size → W.cell? ⟨A, 0, none⟩ = some (.slice a0 (s + k) k0) → W.cell? ⟨A, 1, none⟩ = some (.slice at' tl.length kt) → Below w.heap.size w W →
      Calls Tryd.prog 30 #[.slice (some ⟨A, 0, none⟩) 2 2] W fun r w3 => ∃ v, r = .returned v ∧ w3.ownsRow w.heap.size 5 1 v ((framesL l).take (s + k) ++ tl).length (byCs ((framesL l).take (s + k) ++ tl)) ∧ Below w.heap.size w w3) := by
    intro A W h1 h2 h3 h4
    refine (concat_any A _ _ ((framesL l).take (s + k)) tl W h1 h2 h3 (HC.out.below h4) (HT.out.below h4) (by rw [List.length_take]; omega) htl).mono ?_
    rintro x w3 ⟨v3, rfl, ho3, hb3⟩
    exact ⟨v3, rfl, own_mono ho3 h4.size, below_join h4 hb3⟩
  clear hq hq0 HC HT hL
  generalize framesL l = fs at *
  go_enter Tryd.func19, Tryd.ntmps19
  go_wp2_with fail
  refine HS.out.mono ?_
  rintro x w1 ⟨rfl, n, rfl⟩
  go_wp2_with fail
  refine Calls.mono (HCo.out _ _ ?q1 ?q2 ?q3 (below_alloc (below_drewN (Below.refl _ _) n) _)) ?_
  case q1 => simp
  case q2 => exact (new_cell (W := w.drewN n)).1
  case q3 => exact (new_cell (W := w.drewN n)).2
  rintro x w3 ⟨v3, rfl, ho3, hb3⟩
  have HO := hideIt ho3
  have HB := hideIt hb3
  clear ho3 hb3
  go_wp2
  go_ret2
  exact ⟨v3, rfl, HO.out, HB.out⟩

end Go.Proofs.YtdncnljcihblbaaDoor
