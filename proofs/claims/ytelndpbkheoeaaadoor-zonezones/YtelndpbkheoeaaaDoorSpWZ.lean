/-
  Package zone's spans and zones, walked.
  A span with one more op that reads the value, walked.
-/
import Derived.Test.YtelndpbkheoeaaaDoorCkZ
import Derived.Test.YtelndpbkheoeaaaDoorZnPZ
import Derived.Laws.Rows
namespace Go.Proofs.YtelndpbkheoeaaaDoor
open Go.RowKit

/-- A span as a value. -/
def Span.val (s : Span) : Value := .agg #[.int .i64 s.w, .int .i64 s.e, .int .i64 s.b]

theorem zeroSpan (w : World) : (zeroValue 59).run Tryd.prog w = .ok (.agg #[.int .i64 0, .int .i64 0, .int .i64 0]) w := by kernel_rfl

set_option maxHeartbeats 1000000 in
theorem spW_any (l : List Opn) (a : Option Addr) (cap : Nat) (w : World) (hlen : l.length ≤ 60) (hl : l = [] ∨ ∃ b off, a = some ⟨b, off, none⟩ ∧ b < w.heap.size ∧ OpsAt w b off l) (ht : Told l 0) :
    Calls Tryd.prog 21 #[.slice a l.length cap] w fun e w' => ∃ M, e = .returned (.map (some M)) ∧ w.heap.size ≤ M ∧ MapV Tryd.prog Span.val w' M (l.length + 1) (spW l l.length) ∧ Below w.heap.size w w' := by
  have HL := hideIt hl
  have HT := hideIt ht
  clear hl ht
  have hmm := @run_makeMap Tryd.prog
  obtain ⟨w1, hrun, hm1, hg1⟩ := (mapV_made w Tryd.prog Span.val).store Tryd.underlying3 Tryd.underlying56 (by omega) (q := 0) (by decide) ⟨-2, -1, -2⟩
  have HM1 := hideIt hm1
  have HB1 : Hid (Below w.heap.size w w1) := (belA (Below.refl _ _) _).grown hg1 (by simp) (fun j hj => by cases hj; exact Nat.le_refl _)
  clear hm1 hg1
  unfold Span.val at hrun
  go_enter Tryd.func21, Tryd.ntmps21
  go_wp2
  clear hmm hrun
  go_loopw [11] (fun i wr => ∃ k : Nat, k ≤ l.length ∧ i = .int .i64 k ∧ MapV Tryd.prog Span.val wr w.heap.size (k + 1) (spW l k) ∧ Below w.heap.size w wr) (fun i _ => l.length - (intOf i).toNat)
  case atStart => exact ⟨0, Nat.zero_le _, rfl, HM1.out, HB1.out⟩
  case round =>
    obtain ⟨k, hk, rfl, hm, hnx⟩ := hrel
    have HM := hideIt hm
    have HNX := hideIt hnx
    have HMlt : Hid (w.heap.size < wr.heap.size) := hm.lt
    clear hm
    by_cases hkl : k < l.length
    · rcases HL.out with e | ⟨b, off, rfl, hb, HO⟩
      · subst e; simp at hkl
      · have HOO := hideIt HO
        clear HO
        obtain ⟨c0, c1, c2, c3, c4, c5, c6, c7⟩ := (HOO.out k hkl).below hb hnx
        have HX : Hid (opZ l k = l[k]) := opZ_at hkl
        have HNum := hideIt (told_num HT.out k hkl)
        rw [HX.out] at HNum
        generalize l[k] = x at c0 c1 c2 c3 c4 c5 c6 c7 HX HNum
        have hwf : (Lit.int .i64 x.a).wf = true := WalkArith.wf_i64 (by have := HNum.out; omega)
        have HM2 : Hid (∀ o : Obj, MapV Tryd.prog Span.val (wr.alloc o) w.heap.size (k + 1) (spW l k)) := fun o => HM.out.alloc o
        cases hd : x.d == 2
        · have R3 : Hid (spW l (k + 1) = spW l k) := by
            show (if (opZ l k).d = 2 then _ else _) = _
            rw [HX.out, if_neg (by simpa using hd)]
          go_wp2
          go_roundw
          case rel => exact ⟨k + 1, by omega, by go_num, by rw [R3.out]; exact (HM2.out _).mono (by omega), belA HNX.out _⟩
          case measure => simp [intOf]; omega
        · have R3 : Hid (spW l (k + 1) = putK (spW l k) x.a (some ⟨x.c, x.e, x.c⟩)) := by
            show (if (opZ l k).d = 2 then _ else _) = _
            rw [HX.out, if_pos (by simpa using hd)]
          go_wp2_with (at_mapUpdate; refine wpList_store_v _ Tryd.underlying3 rfl _ _ _ _ rfl _ Tryd.underlying56 _ _ _ rfl (HM2.out _) (by omega) _ rfl hwf ⟨x.c, x.e, x.c⟩ rfl ?_; intro w3 hm3 hg3)
          go_roundw
          case rel => exact ⟨k + 1, by omega, by go_num, by rw [R3.out]; exact hm3, (belA HNX.out _).grown hg3 (belA HNX.out _).size (fun j hj => by cases hj; exact Nat.le_refl _)⟩
          case measure => simp [intOf]; omega
    · have hkk : k = l.length := by omega
      subst hkk
      go_wp2
      go_ret
      exact ⟨w.heap.size, rfl, Nat.le_refl _, HM.out, HNX.out⟩

end Go.Proofs.YtelndpbkheoeaaaDoor

namespace Go.Proofs.YtelndpbkheoeaaaDoor
open Go.RowKit

theorem heap_last (w : World) (o : Obj) {n : Nat} (h : n = w.heap.size) : (w.alloc o).heap[n]? = some o := by rw [h]; exact heap_alloc_new w o

set_option maxHeartbeats 400000 in
theorem more_any (s : Span) (x : Opn) (w : World) : Calls Tryd.prog 22 #[s.val, x.agg] w fun e w' => e = .returned (s.more x).val ∧ Below w.heap.size w w' := by
  unfold Opn.agg Span.val
  go_enter Tryd.func22, Tryd.ntmps22
  go_wp2
  all_goals
    refine bodyPost_ret (results_cell_row rfl _ _ _ 59 _ _ _ rfl (heap_last _ _ (by simp)) Tryd.underlying59 rfl (by kernel_rfl)) rfl ?_
    refine ⟨?_, belA (belA (belA (Below.refl _ _) _) _) _⟩
    simp only [Span.more]
    first | rw [show min s.e x.e = x.e from by omega] | rw [show min s.e x.e = s.e from by omega]
    first | rw [show max s.b x.c = x.c from by omega] | rw [show max s.b x.c = s.b from by omega]

end Go.Proofs.YtelndpbkheoeaaaDoor
