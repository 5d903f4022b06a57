/-
  What opFault and CheckOps of package event do.
-/
import Derived.Test.YtkedbcfejcakaaaDoorWalkE
import Derived.Test.YtkedbcfejcakaaaDoorWalkB
import Derived.Deep.RegionWith
namespace Go.Proofs.YtkedbcfejcakaaaDoor
open Go.RowKit

theorem opFaultN_range (l : List Opn) (x : Opn) (h : rangeB x = false) : opFaultN l x = 2 := by simp [opFaultN, h]
theorem opFaultN_kind (l : List Opn) (x : Opn) (h : rangeB x = true) (h2 : kindB x.d = false) : opFaultN l x = 1 := by simp [opFaultN, h, h2]
theorem opFaultN_order (l : List Opn) (x : Opn) (h : rangeB x = true) (h2 : kindB x.d = true) (h3 : orderB l x = false) : opFaultN l x = 10 := by simp [opFaultN, h, h2, h3]
theorem opFaultN_twice (l : List Opn) (x : Opn) (h : rangeB x = true) (h2 : kindB x.d = true) (h3 : orderB l x = true) (h4 : l.any (fun y => shareB y x) = true) : opFaultN l x = 9 := by unfold opFaultN; rw [h, h2, h3, h4]; rfl
theorem opFaultN_rest (l : List Opn) (x : Opn) (h : rangeB x = true) (h2 : kindB x.d = true) (h3 : orderB l x = true) (h4 : l.any (fun y => shareB y x) = false) : opFaultN l x = if l.any (fun y => clashB y x) then 6 else 0 := by unfold opFaultN; rw [h, h2, h3, h4]; rfl

theorem hideIt {p : Prop} (h : p) : Hid p := h

/-- What a new block of an op holds. -/
theorem opAt_new (w : World) (x : Opn) : OpAt (w.alloc (.cells #[.int .i64 x.p, .int .i64 x.k, .int .i64 x.d, .int .i64 x.a, .int .i64 x.b, .int .i64 x.r, .int .i64 x.c, .int .i64 x.e] 47)) w.heap.size 0 x :=
  ⟨by simp, by simp, by simp, by simp, by simp, by simp, by simp, by simp⟩

set_option maxHeartbeats 1000000 in
theorem opFault_range (x : Opn) (v : Value) (w : World) (h : rangeB x = false) :
    Calls Tryd.prog 28 #[v, x.agg] w fun e w' => e = .returned (.int .i64 2) ∧ Below w.heap.size w w' := by
  unfold Opn.agg
  cases h1 : inB x.p x.k x.a x.b x.r
  · go_enter Tryd.func28, Tryd.ntmps28
    go_wp2_with (go_at_call 36; refine (inBounds_any _ _ _ _ _ _).mono ?_; rintro e w' ⟨rfl, rfl⟩)
    go_ret
    exact ⟨rfl, belA (Below.refl _ _) _⟩
  · cases h2 : numB x.c
    · go_enter Tryd.func28, Tryd.ntmps28
      go_wp2_with (first | (go_at_call 36; refine (inBounds_any _ _ _ _ _ _).mono ?_; rintro e w' ⟨rfl, rfl⟩) | (go_at_call 44; refine (isNumber_any _ _).mono ?_; rintro e w' ⟨rfl, rfl⟩))
      go_ret
      exact ⟨rfl, belA (Below.refl _ _) _⟩
    · have h3 : numB x.e = false := by simpa [rangeB, h1, h2] using h
      clear h
      go_enter Tryd.func28, Tryd.ntmps28
      go_wp2_with (first | (go_at_call 36; refine (inBounds_any _ _ _ _ _ _).mono ?_; rintro e w' ⟨rfl, rfl⟩) | (go_at_call 44; refine (isNumber_any _ _).mono ?_; rintro e w' ⟨rfl, rfl⟩))
      go_ret
      exact ⟨rfl, belA (Below.refl _ _) _⟩

set_option maxHeartbeats 2000000 in
theorem opFault_any (l : List Opn) (x : Opn) (b off cap : Nat) (w : World) (hlen : l.length ≤ 60) (hl : OpsAt w b off l) (hb : b < w.heap.size) :
    Calls Tryd.prog 28 #[.slice (some ⟨b, off, none⟩) l.length cap, x.agg] w fun e w' => e = .returned (.int .i64 (opFaultN l x)) ∧ Below w.heap.size w w' := by
  cases hr : rangeB x
  · rw [opFaultN_range l x hr]
    exact opFault_range x _ w hr
  · have hr' := hr
    simp only [rangeB, Bool.and_eq_true] at hr'
    obtain ⟨⟨h1, h2⟩, h3⟩ := hr'
    have HN := opAt_new w x
    have hbel : Below w.heap.size w (w.alloc (.cells #[.int .i64 x.p, .int .i64 x.k, .int .i64 x.d, .int .i64 x.a, .int .i64 x.b, .int .i64 x.r, .int .i64 x.c, .int .i64 x.e] 47)) := belA (Below.refl _ _) _
    have hl1 := hl.below hb hbel
    have hb1 : b < (w.alloc (.cells #[.int .i64 x.p, .int .i64 x.k, .int .i64 x.d, .int .i64 x.a, .int .i64 x.b, .int .i64 x.r, .int .i64 x.c, .int .i64 x.e] 47)).heap.size := by simp; omega
    have hlt : w.heap.size < (w.alloc (.cells #[.int .i64 x.p, .int .i64 x.k, .int .i64 x.d, .int .i64 x.a, .int .i64 x.b, .int .i64 x.r, .int .i64 x.c, .int .i64 x.e] 47)).heap.size := by simp
    cases hk : kindB x.d
    · rw [opFaultN_kind l x hr hk]
      unfold Opn.agg
      clear HN hl1 hb1 hlt hbel
      go_enter Tryd.func28, Tryd.ntmps28
      go_wp2_with (first | (go_at_call 36; refine (inBounds_any _ _ _ _ _ _).mono ?_; rintro e w' ⟨rfl, rfl⟩) | (go_at_call 44; refine (isNumber_any _ _).mono ?_; rintro e w' ⟨rfl, rfl⟩) | (go_at_call 37; refine (isKind_any _ _).mono ?_; rintro e w' ⟨rfl, rfl⟩))
      go_ret
      exact ⟨rfl, belA (Below.refl _ _) _⟩
    · cases ho : orderB l x
      · rw [opFaultN_order l x hr hk ho]
        have HI := inOrder_any l x b off cap _ hlen hl1 hb1
        rw [ho] at HI
        have HI := hideIt HI
        unfold Opn.agg
        clear HN hl1 hb1 hlt hbel
        go_enter Tryd.func28, Tryd.ntmps28
        go_wp2_with (first | (go_at_call 36; refine (inBounds_any _ _ _ _ _ _).mono ?_; rintro e w' ⟨rfl, rfl⟩) | (go_at_call 44; refine (isNumber_any _ _).mono ?_; rintro e w' ⟨rfl, rfl⟩) | (go_at_call 37; refine (isKind_any _ _).mono ?_; rintro e w' ⟨rfl, rfl⟩))
        refine HI.out.mono ?_
        rintro e w1 ⟨rfl, hb2⟩
        go_wp2
        go_ret
        exact ⟨rfl, belJ (belA (Below.refl _ _) _) hb2⟩
      · have HI := inOrder_any l x b off cap _ hlen hl1 hb1
        rw [ho] at HI
        have HI := hideIt HI
        have HN := hideIt HN
        have HL := hideIt hl1
        cases ht : l.any (fun y => shareB y x)
        · obtain ⟨n, hc, HV⟩ : ∃ c : Bool, l.any (fun y => clashB y x) = c ∧ Hid (opFaultN l x = if c then 6 else 0) := ⟨_, rfl, opFaultN_rest l x hr hk ho ht⟩
          rw [HV.out]
          have HT : Hid (l.any (fun y => shareB y x) = false) := ht
          have HC : Hid (l.any (fun y => clashB y x) = n) := hc
          clear ht hl1 hl ho hc
          unfold Opn.agg
          go_enter Tryd.func28, Tryd.ntmps28
          go_wp2_with (first | (go_at_call 36; refine (inBounds_any _ _ _ _ _ _).mono ?_; rintro e w' ⟨rfl, rfl⟩) | (go_at_call 44; refine (isNumber_any _ _).mono ?_; rintro e w' ⟨rfl, rfl⟩) | (go_at_call 37; refine (isKind_any _ _).mono ?_; rintro e w' ⟨rfl, rfl⟩))
          refine HI.out.mono ?_
          rintro e w1 ⟨rfl, hb2⟩
          have hb2' := hb2.size
          go_wp2_with fail
          refine (contains47 l x b off cap w.heap.size w1 hlen (HL.out.below hb1 hb2) (by omega) (HN.out.below hlt hb2)).mono ?_
          rw [HT.out]
          rintro e w2 ⟨rfl, hb3⟩
          have hb3' := hb3.size
          go_wp2_with fail
          refine (contains49 l x b off cap w.heap.size w2 hlen ((HL.out.below hb1 hb2).below (by omega) hb3) (by omega) ((HN.out.below hlt hb2).below (by omega) hb3)).mono ?_
          rw [HC.out]
          rintro e w3 ⟨rfl, hb4⟩
          go_wp2
          all_goals
            go_ret
            refine ⟨?_, belJ (belJ (belJ hbel hb2) hb3) hb4⟩
            simp_all
        · rw [opFaultN_twice l x hr hk ho ht]
          have HT : Hid (l.any (fun y => shareB y x) = true) := ht
          clear ht hl1 hl ho
          unfold Opn.agg
          go_enter Tryd.func28, Tryd.ntmps28
          go_wp2_with (first | (go_at_call 36; refine (inBounds_any _ _ _ _ _ _).mono ?_; rintro e w' ⟨rfl, rfl⟩) | (go_at_call 44; refine (isNumber_any _ _).mono ?_; rintro e w' ⟨rfl, rfl⟩) | (go_at_call 37; refine (isKind_any _ _).mono ?_; rintro e w' ⟨rfl, rfl⟩))
          refine HI.out.mono ?_
          rintro e w1 ⟨rfl, hb2⟩
          have hb2' := hb2.size
          go_wp2_with fail
          refine (contains47 l x b off cap w.heap.size w1 hlen (HL.out.below hb1 hb2) (by omega) (HN.out.below hlt hb2)).mono ?_
          rw [HT.out]
          rintro e w2 ⟨rfl, hb3⟩
          go_wp2
          go_ret
          exact ⟨rfl, belJ (belJ hbel hb2) hb3⟩
end Go.Proofs.YtkedbcfejcakaaaDoor
