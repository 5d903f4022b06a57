/-
  What end of a history does.
-/
import Derived.Test.YtbmnehnmmlfhdaaDoorHistB
namespace Go.Proofs.YtbmnehnmmlfhdaaDoor
open Go.RowKit

set_option maxHeartbeats 1000000 in
theorem end_none (e : Ev) (n : Int) (w : World) (B M base cnt : Nat) (s : Hs) (H : HistAt w B M base cnt s) (h0 : 0 ≤ e.p) (h8 : e.p < 8) (hb : s.busy e.p = none) :
    Calls Tryd.prog 36 #[.pointer (some ⟨B, 0, none⟩), .int .i64 n, e.agg] w fun ev w' => ev = .returned (.int .i64 12) ∧ HistAt w' B M base cnt s ∧ Below M w w' := by
  have hB : B < w.heap.size := Nat.lt_of_lt_of_le H.lt2 H.lt3
  have hM : M < w.heap.size := Nat.lt_trans H.lt1 hB
  have hc := H.mapc
  obtain ⟨x, hr1, hx1⟩ := (H.map.alloc e.obj).drew.look e.p h0 h8
  obtain ⟨y, hr2, hx2⟩ := ((H.map.alloc e.obj).alloc zeroObj).drew.look e.p h0 h8
  rw [hb] at hr1 hr2
  simp only [Option.isSome_none] at hr1 hr2
  clear hx1 hx2 hb
  unfold Opn.agg Ev.obj at hr1
  unfold Opn.agg Ev.obj zeroObj at hr2
  have HH := H
  clear H
  unfold Ev.agg
  go_enter Tryd.func36, Tryd.ntmps36
  go_wp2_with fail
  go_region
  all_goals
    go_wp2
    go_ret
    refine ⟨rfl, ?_, ?_⟩
    · repeat (first | exact HH | refine HistAt.drewN ?_ _ | refine HistAt.drew ?_ | refine HistAt.alloc ?_ _)
    · refine Below.mono (B := w.heap.size) ?_ (Nat.le_of_lt hM)
      repeat (first | exact Below.refl _ _ | refine below_drewN ?_ _ | refine Below.drew ?_ | refine belA ?_ _)

set_option maxHeartbeats 1000000 in
theorem end_other (e : Ev) (n : Int) (w : World) (B M base cnt : Nat) (s : Hs) (o : Opn) (H : HistAt w B M base cnt s) (h0 : 0 ≤ e.p) (h8 : e.p < 8) (hb : s.busy e.p = some o) (hne : sameB o e = false) :
    Calls Tryd.prog 36 #[.pointer (some ⟨B, 0, none⟩), .int .i64 n, e.agg] w fun ev w' => ev = .returned (.int .i64 12) ∧ HistAt w' B M base cnt s ∧ Below M w w' := by
  have hB : B < w.heap.size := Nat.lt_of_lt_of_le H.lt2 H.lt3
  have hM : M < w.heap.size := Nat.lt_trans H.lt1 hB
  have hc := H.mapc
  obtain ⟨x, hr1, hx1⟩ := (H.map.alloc e.obj).drew.look e.p h0 h8
  obtain rfl := hx1 o hb
  obtain ⟨y, hr2, hx2⟩ := ((H.map.alloc e.obj).alloc zeroObj).drew.look e.p h0 h8
  obtain rfl := hx2 x hb
  rw [hb] at hr1 hr2
  simp only [Option.isSome_some] at hr1 hr2
  clear hx1 hx2 hb
  unfold Opn.agg Ev.obj at hr1
  unfold Opn.agg Ev.obj zeroObj at hr2
  have HH := H
  clear H
  unfold Ev.agg
  have fin : ∀ W : World, W = ((w.alloc e.obj).alloc y.obj).drew → HistAt W B M base cnt s ∧ Below M w W := fun W hW => by
    subst hW
    exact ⟨((HH.alloc _).alloc _).drew, ((belA (belA (Below.refl _ _) _) _).drew).mono (Nat.le_of_lt hM)⟩
  have FIN := hideIt fin
  clear fin
  cases a1 : y.k == e.k
  · have a1' : (y.k != e.k) = true := by simp [bne, a1]
    clear hne
    go_enter Tryd.func36, Tryd.ntmps36
    go_wp2_with fail
    go_region
    all_goals
      go_wp2
      go_ret
      exact ⟨rfl, FIN.out _ rfl⟩
  · have a1' : (y.k != e.k) = false := by simp [bne, a1]
    cases a2 : y.d == e.d
    · have a2' : (y.d != e.d) = true := by simp [bne, a2]
      clear hne
      go_enter Tryd.func36, Tryd.ntmps36
      go_wp2_with fail
      go_region
      all_goals
        go_wp2
        go_ret
        exact ⟨rfl, FIN.out _ rfl⟩
    · have a2' : (y.d != e.d) = false := by simp [bne, a2]
      cases a3 : y.a == e.a
      · have a3' : (y.a != e.a) = true := by simp [bne, a3]
        clear hne
        go_enter Tryd.func36, Tryd.ntmps36
        go_wp2_with fail
        go_region
        all_goals
          go_wp2
          go_ret
          exact ⟨rfl, FIN.out _ rfl⟩
      · have a3' : (y.a != e.a) = false := by simp [bne, a3]
        have a4 : (y.b == e.b) = false := by simpa [sameB, a1, a2, a3] using hne
        have a4' : (y.b != e.b) = true := by simp [bne, a4]
        clear hne
        go_enter Tryd.func36, Tryd.ntmps36
        go_wp2_with fail
        go_region
        all_goals
          go_wp2
          go_ret
          exact ⟨rfl, FIN.out _ rfl⟩

end Go.Proofs.YtbmnehnmmlfhdaaDoor
