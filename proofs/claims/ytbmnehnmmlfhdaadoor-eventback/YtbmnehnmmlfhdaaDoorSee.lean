/-
  What see of a history does: as the plain history.
-/
import Derived.Test.YtbmnehnmmlfhdaaDoorHistG
namespace Go.Proofs.YtbmnehnmmlfhdaaDoor
open Go.RowKit

theorem HistAt.mono {w : World} {B M base cnt cnt' : Nat} {s : Hs} (h : HistAt w B M base cnt s) (hc : cnt ≤ cnt') : HistAt w B M base cnt' s := by
  obtain ⟨D, h1, h2⟩ := h.map
  exact ⟨h.mapc, h.lost, h.row, ⟨D, h1.mono hc, h2⟩, h.lt1, h.lt2, h.lt3⟩

theorem eight_of {e : Ev} (h : e.fault = 0) : 0 ≤ e.p ∧ e.p < 8 := by
  have := (fault_parts h).1
  simp [inB, eightB] at this
  omega

/-- What begin does, whatever the history. -/
theorem begin_any (e : Ev) (n : Int) (w : World) (B M base cnt : Nat) (s : Hs) (H : HistAt w B M base cnt s) (hcn : cnt < 1000) (hf : e.fault = 0) (ht : e.t = 1) :
    Calls Tryd.prog 35 #[.pointer (some ⟨B, 0, none⟩), .int .i64 n, e.agg] w fun ev w' => ev = .returned (.int .i64 (seeN e s)) ∧ (seeN e s = 0 → HistAt w' B M base (cnt + 1) (seeS n e s)) ∧ Below M w w' := by
  obtain ⟨h0, h8⟩ := eight_of hf
  have en : seeN e s = if (s.busy e.p).isSome || s.lost e.p then 6 else 0 := by unfold seeN; rw [if_neg (by simpa using hf), if_pos ht]
  have es : seeS n e s = ⟨setO s.busy e.p (some (e.op n)), s.lost, s.done⟩ := by unfold seeS; rw [if_pos ht]
  rw [en, es]
  cases hb : s.busy e.p with
  | some o =>
    refine (begin_busy e n w B M base cnt s o H h0 h8 hb).mono ?_
    rintro ev w' ⟨rfl, _, hbel⟩
    exact ⟨by simp, fun h => by simp at h, hbel⟩
  | none =>
    cases hl : s.lost e.p
    · refine (begin_new e n w B M base cnt s H hcn h0 h8 hb hl).mono ?_
      rintro ev w' ⟨rfl, hh, hbel⟩
      exact ⟨by simp, fun _ => hh, hbel⟩
    · refine (begin_lost e n w B M base cnt s H h0 h8 hb hl).mono ?_
      rintro ev w' ⟨rfl, _, hbel⟩
      exact ⟨by simp, fun h => by simp at h, hbel⟩

/-- What end does, whatever the history. -/
theorem end_any (e : Ev) (n : Int) (w : World) (B M base cnt : Nat) (s : Hs) (H : HistAt w B M base cnt s) (hn : s.done.length ≤ 200) (hf : e.fault = 0) (ht : e.t ≠ 1) :
    Calls Tryd.prog 36 #[.pointer (some ⟨B, 0, none⟩), .int .i64 n, e.agg] w fun ev w' => ev = .returned (.int .i64 (seeN e s)) ∧ (seeN e s = 0 → HistAt w' B M base (cnt + 1) (seeS n e s)) ∧ Below M w w' := by
  obtain ⟨h0, h8⟩ := eight_of hf
  unfold seeN seeS
  rw [if_neg (by simpa using hf), if_neg ht, if_neg ht]
  cases hb : s.busy e.p with
  | none =>
    refine (end_none e n w B M base cnt s H h0 h8 hb).mono ?_
    rintro ev w' ⟨rfl, _, hbel⟩
    exact ⟨rfl, fun h => by simp at h, hbel⟩
  | some o =>
    cases hs : sameB o e
    · refine (end_other e n w B M base cnt s o H h0 h8 hb hs).mono ?_
      rintro ev w' ⟨rfl, _, hbel⟩
      exact ⟨by simp [hs], fun h => by simp [hs] at h, hbel⟩
    · dsimp only
      rw [if_pos hs]
      by_cases h2 : e.t = 2
      · refine (end_done e n w B M base cnt s o H hn h0 h8 hb hs h2).mono ?_
        rintro ev w' ⟨rfl, hh, hbel⟩
        exact ⟨rfl, fun _ => by show HistAt w' B M base (cnt + 1) (if e.t = 2 then _ else _); rw [if_pos h2]; exact hh.mono (by omega), hbel⟩
      · by_cases h4 : e.t = 4
        · refine (end_info e n w B M base cnt s o H hn h0 h8 hb hs h4).mono ?_
          rintro ev w' ⟨rfl, hh, hbel⟩
          exact ⟨rfl, fun _ => by show HistAt w' B M base (cnt + 1) (if e.t = 2 then _ else if e.t = 4 then _ else _); rw [if_neg h2, if_pos h4]; exact hh.mono (by omega), hbel⟩
        · refine (end_fail e n w B M base cnt s o H h0 h8 hb hs h2 h4).mono ?_
          rintro ev w' ⟨rfl, hh, hbel⟩
          exact ⟨rfl, fun _ => by show HistAt w' B M base (cnt + 1) (if e.t = 2 then _ else if e.t = 4 then _ else _); rw [if_neg h2, if_neg h4]; exact hh.mono (by omega), hbel⟩

set_option maxHeartbeats 1000000 in
theorem see_any (e : Ev) (n : Int) (w : World) (B M base cnt : Nat) (s : Hs) (H : HistAt w B M base cnt s) (hcn : cnt < 1000) (hn : s.done.length ≤ 200) :
    Calls Tryd.prog 23 #[.pointer (some ⟨B, 0, none⟩), .int .i64 n, e.agg] w fun ev w' => ev = .returned (.int .i64 (seeN e s)) ∧ (seeN e s = 0 → HistAt w' B M base (cnt + 1) (seeS n e s)) ∧ Below M w w' := by
  have hB : B < w.heap.size := Nat.lt_of_lt_of_le H.lt2 H.lt3
  have hM : M < w.heap.size := Nat.lt_trans H.lt1 hB
  have HW : Hid (HistAt ((w.alloc e.obj).alloc e.obj) B M base cnt s) := (H.alloc _).alloc _
  have HB : Hid (Below M w ((w.alloc e.obj).alloc e.obj)) := (belA (belA (Below.refl _ _) _) _).mono (Nat.le_of_lt hM)
  clear H
  have HF : Hid (∀ W, Calls Tryd.prog 7 #[.agg #[.int .i64 e.p, .int .i64 e.t, .int .i64 e.k, .int .i64 e.d, .int .i64 e.a, .int .i64 e.b, .int .i64 e.r]] W fun ev w' => ev = .returned (.int .i64 e.fault) ∧ w' = W.alloc (.cells #[.int .i64 e.p, .int .i64 e.t, .int .i64 e.k, .int .i64 e.d, .int .i64 e.a, .int .i64 e.b, .int .i64 e.r] 31)) := fun W => fault_any e.p e.t e.k e.d e.a e.b e.r W
  by_cases hf : e.fault = 0
  · have hf' : (e.fault != 0) = false := by simp [hf]
    by_cases ht : e.t = 1
    · have HC := hideIt (begin_any e n _ B M base cnt s HW.out hcn hf ht)
      have ht' : (e.t == 1) = true := by simp [ht]
      clear hf ht
      unfold Ev.agg
      go_enter Tryd.func23, Tryd.ntmps23
      go_wp2_with fail
      refine (HF.out _).mono ?_
      rintro ev w1 ⟨rfl, rfl⟩
      go_wp2_with fail
      refine HC.out.mono ?_
      rintro ev w1 ⟨rfl, h1, h2⟩
      have R1 := hideIt h1
      clear h1
      go_wp2
      go_ret
      exact ⟨rfl, R1.out, HB.out.trans h2⟩
    · have HC := hideIt (end_any e n _ B M base cnt s HW.out hn hf ht)
      have ht' : (e.t == 1) = false := by simp [ht]
      clear hf ht
      unfold Ev.agg
      go_enter Tryd.func23, Tryd.ntmps23
      go_wp2_with fail
      refine (HF.out _).mono ?_
      rintro ev w1 ⟨rfl, rfl⟩
      go_wp2_with fail
      refine HC.out.mono ?_
      rintro ev w1 ⟨rfl, h1, h2⟩
      have R1 := hideIt h1
      clear h1
      go_wp2
      go_ret
      exact ⟨rfl, R1.out, HB.out.trans h2⟩
  · have en : seeN e s = e.fault := by unfold seeN; rw [if_pos (by simpa using hf)]
    rw [en]
    have R1 : Hid (e.fault = 0 → HistAt ((w.alloc e.obj).alloc e.obj) B M base (cnt + 1) (seeS n e s)) := fun h => absurd h hf
    have hf' : (e.fault != 0) = true := by simp [hf]
    clear hf en
    unfold Ev.agg
    go_enter Tryd.func23, Tryd.ntmps23
    go_wp2_with fail
    refine (HF.out _).mono ?_
    rintro ev w1 ⟨rfl, rfl⟩
    go_wp2
    go_ret
    exact ⟨rfl, R1.out, HB.out⟩

end Go.Proofs.YtbmnehnmmlfhdaaDoor
