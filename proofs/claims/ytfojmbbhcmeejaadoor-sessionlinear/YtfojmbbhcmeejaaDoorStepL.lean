/-
  Package linear's step: walked.
-/
import Derived.Test.YtfojmbbhcmeejaaDoorDoWZ
import Derived.Test.YtfojmbbhcmeejaaDoorCallWZ
import Derived.Deep.QuietTactic
import Derived.BigQuiet
namespace Go.Proofs.YtfojmbbhcmeejaaDoor
open Go.RowKit

/-- What step tells. -/
def StTold (p : Par) (w : World) (ord : List Nat) (S : Int → List Int) (n : Nat) (e : Ending) (w' : World) : Prop :=
  Below w.heap.size w w' ∧ match stepN p.sr S ord n with
  | none => ∃ v, e = .returned (.tuple #[v, .bool false])
  | some st => ∃ v, e = .returned (.tuple #[v, .bool true]) ∧ RowAt w' w.heap.size v st

theorem waits_cell {p : Par} {w : World} (h : WaitsAt p w) {n : Nat} (hn : n < p.ops.length) : ∃ Wb, p.wv = .slice (some ⟨Wb, 0, none⟩) p.ops.length p.ops.length ∧ w.cell? ⟨Wb, n, none⟩ = some (.int .u64 (maskN (waitL p.ops p.ah n))) := by
  obtain ⟨Wb, cur, e1, _, _, e4⟩ := h
  exact ⟨Wb, e1, e4 n hn⟩

set_option maxRecDepth 100000 in
set_option maxHeartbeats 4000000 in
theorem step_lin (p : Par) (n q : Nat) (ord : List Nat) (S : Int → List Int) (vs : Nat → Value) (ov nv : Value) (ent : List (List UInt8)) (w : World) (h : SearchAt p w ord S vs ov nv ent)
    (hn : n < p.ops.length) (hlen : p.ops.length ≤ 60) (hkq : (opN p.ops n).k = (q : Int)) (hq : q < 8) (hord : ∀ m ∈ ord, m < 60) (hrise : p.o = 3 → (S (q : Int)).Pairwise (· ≤ ·)) (hsl : (S (q : Int)).length ≤ 100000) :
    Calls Tryd.prog 85 #[.pointer (some ⟨p.B, 0, none⟩), .int .i64 n] w fun e w' => StTold p w ord S n e w' := by
  have hml : maskN ord < 18446744073709551616 := maskN_lt (fun m hm => by have := hord m hm; omega)
  have hwl : maskN (waitL p.ops p.ah n) < 18446744073709551616 := maskN_lt (fun m hm => by have := waitL_lt m hm; omega)
  obtain ⟨Wb, hwv, hwc⟩ := waits_cell h.waits hn
  have b0 : w.cell? ⟨p.B, 0, none⟩ = some (.int .i64 p.o) := blk_cells h.blk 0
  have b7 : w.cell? ⟨p.B, 7, none⟩ = some (.int .u64 (maskN ord)) := blk_cells h.blk 7
  have b4 : w.cell? ⟨p.B, 4, none⟩ = some (.slice (some ⟨Wb, 0, none⟩) p.ops.length p.ops.length) := by rw [← hwv]; exact blk_cells h.blk 4
  have bq : w.cell? ⟨p.B, 8 + q, none⟩ = some (vs q) := (blk_cells h.blk (8 + q)).trans (blkA_vs _ _ _ _ _ _ hq)
  have HFR := hideIt (free_all p.sr ord n)
  have HHAS : Hid (∀ W, Calls Tryd.prog 95 #[.int .u64 (maskN ord), .int .i64 n] W fun e w' => e = .returned (.bool (ord.contains n)) ∧ w' = W) := hideIt (fun W => by
    rw [← maskN_bit]; exact has_any _ n W hml (by omega))
  have HCOV : Hid (∀ W, Calls Tryd.prog 83 #[.int .u64 (maskN ord), .int .u64 (maskN (waitL p.ops p.ah n))] W fun e w' => e = .returned (.bool ((waitL p.ops p.ah n).all ord.contains)) ∧ w' = W) := hideIt (fun W => by
    rw [← coversN_mask (fun m hm => by have := hord m hm; omega) (fun m hm => by have := waitL_lt m hm; omega)]
    exact covers_any _ _ W hml hwl)
  have n1 : (0 : Int) ≤ (n : Int) := by omega
  have n2 : (n : Int) < (p.ops.length : Int) := by omega
  have q1 : (0 : Int) ≤ (q : Int) := by omega
  have q2 : (q : Int) < 8 := by omega
  have HN : Hid (freeB p.sr ord n = false → ∀ w', Below w.heap.size w w' → StTold p w ord S n (.returned (.tuple #[.slice none 0 0, .bool false])) w') := hideIt (fun hf w' hb => by
    refine ⟨hb, ?_⟩
    have : stepN p.sr S ord n = none := by unfold stepN; rw [if_neg (by rw [hf]; decide)]
    rw [this]
    exact ⟨_, rfl⟩)
  cases h1 : ord.contains n
  · rw [h1] at HHAS HFR
    cases h2 : (waitL p.ops p.ah n).all ord.contains
    · rw [h2] at HCOV
      have HF : Hid (freeB p.sr ord n = false) := hideIt (by rw [← HFR.out]; show (!false && (waitL p.ops p.ah n).all ord.contains) = false; rw [h2]; rfl)
      clear h1 h2
      go_enter Tryd.func85, Tryd.ntmps85
      go_wp2_with fail
      go_quiet (first | (go_at_call 95; exact Calls.quiet_of_same (HHAS.out _)) | (go_at_call 83; exact Calls.quiet_of_same (HCOV.out _)))
      go_wp2
      go_ret2
      exact HN.out HF.out _ (below_drewN (Below.refl _ _) _)
    · rw [h2] at HCOV
      have HF : Hid (freeB p.sr ord n = true) := hideIt (by rw [← HFR.out]; show (!false && (waitL p.ops p.ah n).all ord.contains) = true; rw [h2]; rfl)
      clear h1 h2
      obtain ⟨bo, offo, cap, hu, hbo, hop⟩ := ops_cell h.ops h.opsb hn
      have b1 : w.cell? ⟨p.B, 1, none⟩ = some (.slice (some ⟨bo, offo, none⟩) p.ops.length cap) := by rw [← hu]; exact blk_cells h.blk 1
      obtain ⟨c0, c1, c2, c3, c4, c5, c6, c7⟩ := hop w (Below.refl _ _)
      have hBl : p.B < w.heap.size := lt_of_heap h.blk
      rw [opN_at hn] at hkq
      rw [hkq] at c1
      have HOPN := hideIt (opN_at hn)
      -- the call of Step
      have HC : Hid (∀ W, Below w.heap.size w W → Calls Tryd.prog 96 #[.int .i64 p.o, vs q, .int .i64 p.ops[n].d, .int .i64 p.ops[n].a, .int .i64 p.ops[n].b] W fun e w' => StepTold W (stepM p.o (S (q : Int)) p.ops[n].d p.ops[n].a p.ops[n].b) e w') := hideIt (fun W hW =>
        step_any p.o p.ops[n].d p.ops[n].a p.ops[n].b (S (q : Int)) (vs q) W (h.known.below (by omega) hW) ((h.rows q hq).has.below hW) hrise hsl (by have := hW.size; omega))
      have HT : Hid (tellN p.sr S n = match stepM p.o (S (q : Int)) p.ops[n].d p.ops[n].a p.ops[n].b with
          | none => none
          | some (st, r) => if decide (p.ops[n].e < 0) || p.ops[n].r == r then some st else none) := hideIt (by
        unfold tellN
        show (match stepM p.o (S (opN p.ops n).k) (opN p.ops n).d (opN p.ops n).a (opN p.ops n).b with | none => none | some (st, r) => if decide ((opN p.ops n).e < 0) || (opN p.ops n).r == r then some st else none) = _
        rw [opN_at hn, hkq])
      have HST : Hid (stepN p.sr S ord n = tellN p.sr S n) := hideIt (by unfold stepN; rw [if_pos HF.out])
      have HALL : Hid (∀ nq W0, w.drewN nq = W0 → (W0.cell? ⟨p.B, 0, none⟩ = some (.int .i64 p.o) ∧ W0.cell? ⟨p.B, 1, none⟩ = some (.slice (some ⟨bo, offo, none⟩) p.ops.length cap) ∧ W0.cell? ⟨p.B, 8 + q, none⟩ = some (vs q) ∧ W0.cell? ⟨bo, offo + n * 8, none⟩ = some (.int .i64 p.ops[n].p) ∧ W0.cell? ⟨bo, offo + n * 8 + 1, none⟩ = some (.int .i64 q) ∧ W0.cell? ⟨bo, offo + n * 8 + 2, none⟩ = some (.int .i64 p.ops[n].d) ∧ W0.cell? ⟨bo, offo + n * 8 + 3, none⟩ = some (.int .i64 p.ops[n].a) ∧ W0.cell? ⟨bo, offo + n * 8 + 4, none⟩ = some (.int .i64 p.ops[n].b) ∧ W0.cell? ⟨bo, offo + n * 8 + 5, none⟩ = some (.int .i64 p.ops[n].r) ∧ W0.cell? ⟨bo, offo + n * 8 + 6, none⟩ = some (.int .i64 p.ops[n].c) ∧ W0.cell? ⟨bo, offo + n * 8 + 7, none⟩ = some (.int .i64 p.ops[n].e)) ∧ Below w.heap.size w W0 ∧ W0.heap.size = w.heap.size) := hideIt (fun nq W0 e => by
        subst e
        exact ⟨⟨b0, b1, bq, c0, c1, c2, c3, c4, c5, c6, c7⟩, below_drewN (Below.refl _ _) _, rfl⟩)
      clear hop hu hkq h hrise
      cases hst : stepM p.o (S (q : Int)) p.ops[n].d p.ops[n].a p.ops[n].b with
      | none =>
        have HR : Hid (stepN p.sr S ord n = none) := hideIt (by rw [HST.out, HT.out, hst])
        rw [hst] at HC
        clear hst HT HST
        go_enter Tryd.func85, Tryd.ntmps85
        go_wp2_with fail
        go_quiet (first | (go_at_call 95; exact Calls.quiet_of_same (HHAS.out _)) | (go_at_call 83; exact Calls.quiet_of_same (HCOV.out _)))
        generalize hW0 : w.drewN nq = W0
        obtain ⟨⟨b0', b1', bq', c0', c1', c2', c3', c4', c5', c6', c7'⟩, hbW, hsW⟩ := HALL.out nq W0 hW0
        have HW1 : Hid (Below w.heap.size w (W0.alloc (.cells #[.int .i64 p.ops[n].p, .int .i64 q, .int .i64 p.ops[n].d, .int .i64 p.ops[n].a, .int .i64 p.ops[n].b, .int .i64 p.ops[n].r, .int .i64 p.ops[n].c, .int .i64 p.ops[n].e] 48)).drew) := hideIt ((hbW.alloc (by omega) _).drew)
        have HK2 : Hid (∀ w2, Below (W0.alloc (.cells #[.int .i64 p.ops[n].p, .int .i64 q, .int .i64 p.ops[n].d, .int .i64 p.ops[n].a, .int .i64 p.ops[n].b, .int .i64 p.ops[n].r, .int .i64 p.ops[n].c, .int .i64 p.ops[n].e] 48)).drew.heap.size (W0.alloc (.cells #[.int .i64 p.ops[n].p, .int .i64 q, .int .i64 p.ops[n].d, .int .i64 p.ops[n].a, .int .i64 p.ops[n].b, .int .i64 p.ops[n].r, .int .i64 p.ops[n].c, .int .i64 p.ops[n].e] 48)).drew w2 → w2.cell? ⟨p.B, 0, none⟩ = some (.int .i64 p.o) ∧ w2.cell? ⟨p.B, 8 + q, none⟩ = some (vs q) ∧ w2.cell? ⟨W0.heap.size, 0, none⟩ = some (.int .i64 p.ops[n].p) ∧ w2.cell? ⟨W0.heap.size, 1, none⟩ = some (.int .i64 q) ∧ w2.cell? ⟨W0.heap.size, 2, none⟩ = some (.int .i64 p.ops[n].d) ∧ w2.cell? ⟨W0.heap.size, 3, none⟩ = some (.int .i64 p.ops[n].a) ∧ w2.cell? ⟨W0.heap.size, 4, none⟩ = some (.int .i64 p.ops[n].b) ∧ w2.cell? ⟨W0.heap.size, 5, none⟩ = some (.int .i64 p.ops[n].r) ∧ w2.cell? ⟨W0.heap.size, 6, none⟩ = some (.int .i64 p.ops[n].c) ∧ w2.cell? ⟨W0.heap.size, 7, none⟩ = some (.int .i64 p.ops[n].e) ∧ Below w.heap.size w w2) := hideIt (fun w2 h2 => by
          have hW : ∀ a : Addr, a.block < W0.heap.size → w2.cell? a = W0.cell? a := fun a ha => (h2.cell (p := a) (show a.block < (W0.alloc (.cells #[.int .i64 p.ops[n].p, .int .i64 q, .int .i64 p.ops[n].d, .int .i64 p.ops[n].a, .int .i64 p.ops[n].b, .int .i64 p.ops[n].r, .int .i64 p.ops[n].c, .int .i64 p.ops[n].e] 48)).heap.size by simp; omega)).trans (World.cell?_alloc_lt W0 _ a ha)
          have hN : ∀ i, w2.cell? ⟨W0.heap.size, i, none⟩ = (W0.alloc (.cells #[.int .i64 p.ops[n].p, .int .i64 q, .int .i64 p.ops[n].d, .int .i64 p.ops[n].a, .int .i64 p.ops[n].b, .int .i64 p.ops[n].r, .int .i64 p.ops[n].c, .int .i64 p.ops[n].e] 48)).cell? ⟨W0.heap.size, i, none⟩ := fun i => h2.cell (p := ⟨W0.heap.size, i, none⟩) (show W0.heap.size < (W0.alloc (.cells #[.int .i64 p.ops[n].p, .int .i64 q, .int .i64 p.ops[n].d, .int .i64 p.ops[n].a, .int .i64 p.ops[n].b, .int .i64 p.ops[n].r, .int .i64 p.ops[n].c, .int .i64 p.ops[n].e] 48)).heap.size by simp)
          refine ⟨(hW _ (by show p.B < _; omega)).trans b0', (hW _ (by show p.B < _; omega)).trans bq', ?_, ?_, ?_, ?_, ?_, ?_, ?_, ?_, HW1.out.trans (h2.mono HW1.out.size)⟩
          all_goals (rw [hN]; simp))
        clear hW0 b0 b1 b7 b4 bq c0 c1 c2 c3 c4 c5 c6 c7 hwc hbW hsW
        go_wp2_with fail
        go_region_held3 (fun w' => w'.cell? ⟨p.B, 0, none⟩ = some (.int .i64 p.o) ∧ w'.cell? ⟨p.B, 8 + q, none⟩ = some (vs q) ∧ w'.cell? ⟨W0.heap.size, 0, none⟩ = some (.int .i64 p.ops[n].p) ∧ w'.cell? ⟨W0.heap.size, 1, none⟩ = some (.int .i64 q) ∧ w'.cell? ⟨W0.heap.size, 2, none⟩ = some (.int .i64 p.ops[n].d) ∧ w'.cell? ⟨W0.heap.size, 3, none⟩ = some (.int .i64 p.ops[n].a) ∧ w'.cell? ⟨W0.heap.size, 4, none⟩ = some (.int .i64 p.ops[n].b) ∧ w'.cell? ⟨W0.heap.size, 5, none⟩ = some (.int .i64 p.ops[n].r) ∧ w'.cell? ⟨W0.heap.size, 6, none⟩ = some (.int .i64 p.ops[n].c) ∧ w'.cell? ⟨W0.heap.size, 7, none⟩ = some (.int .i64 p.ops[n].e)) (go_keep)
          (first | (go_at_call 96; refine (HC.out _ HW1.out).mono ?_; rintro e w2 ⟨hb2, rfl⟩; obtain ⟨p0, pq, p1, p2, p3, p4, p5, p6, p7, p8, hb3⟩ := HK2.out w2 hb2; have HB3 := hideIt hb3; clear hb2 hb3))
        go_wp2_with fail
        go_quiet (fail)
        go_wp2
        go_ret2
        exact ⟨below_drewN HB3.out _, by rw [HR.out]; exact ⟨_, rfl⟩⟩
      | some pr =>
        obtain ⟨st, r⟩ := pr
        cases he : decide (p.ops[n].e < 0)
        · cases hz : (p.ops[n].r == r)
          · have HR : Hid (stepN p.sr S ord n = none) := hideIt (by rw [HST.out, HT.out, hst]; simp [he, hz])
            rw [hst] at HC
            clear hst HT HST
            go_enter Tryd.func85, Tryd.ntmps85
            go_wp2_with fail
            go_quiet (first | (go_at_call 95; exact Calls.quiet_of_same (HHAS.out _)) | (go_at_call 83; exact Calls.quiet_of_same (HCOV.out _)))
            generalize hW0 : w.drewN nq = W0
            obtain ⟨⟨b0', b1', bq', c0', c1', c2', c3', c4', c5', c6', c7'⟩, hbW, hsW⟩ := HALL.out nq W0 hW0
            have HW1 : Hid (Below w.heap.size w (W0.alloc (.cells #[.int .i64 p.ops[n].p, .int .i64 q, .int .i64 p.ops[n].d, .int .i64 p.ops[n].a, .int .i64 p.ops[n].b, .int .i64 p.ops[n].r, .int .i64 p.ops[n].c, .int .i64 p.ops[n].e] 48)).drew) := hideIt ((hbW.alloc (by omega) _).drew)
            have HK2 : Hid (∀ w2, Below (W0.alloc (.cells #[.int .i64 p.ops[n].p, .int .i64 q, .int .i64 p.ops[n].d, .int .i64 p.ops[n].a, .int .i64 p.ops[n].b, .int .i64 p.ops[n].r, .int .i64 p.ops[n].c, .int .i64 p.ops[n].e] 48)).drew.heap.size (W0.alloc (.cells #[.int .i64 p.ops[n].p, .int .i64 q, .int .i64 p.ops[n].d, .int .i64 p.ops[n].a, .int .i64 p.ops[n].b, .int .i64 p.ops[n].r, .int .i64 p.ops[n].c, .int .i64 p.ops[n].e] 48)).drew w2 → w2.cell? ⟨p.B, 0, none⟩ = some (.int .i64 p.o) ∧ w2.cell? ⟨p.B, 8 + q, none⟩ = some (vs q) ∧ w2.cell? ⟨W0.heap.size, 0, none⟩ = some (.int .i64 p.ops[n].p) ∧ w2.cell? ⟨W0.heap.size, 1, none⟩ = some (.int .i64 q) ∧ w2.cell? ⟨W0.heap.size, 2, none⟩ = some (.int .i64 p.ops[n].d) ∧ w2.cell? ⟨W0.heap.size, 3, none⟩ = some (.int .i64 p.ops[n].a) ∧ w2.cell? ⟨W0.heap.size, 4, none⟩ = some (.int .i64 p.ops[n].b) ∧ w2.cell? ⟨W0.heap.size, 5, none⟩ = some (.int .i64 p.ops[n].r) ∧ w2.cell? ⟨W0.heap.size, 6, none⟩ = some (.int .i64 p.ops[n].c) ∧ w2.cell? ⟨W0.heap.size, 7, none⟩ = some (.int .i64 p.ops[n].e) ∧ Below w.heap.size w w2) := hideIt (fun w2 h2 => by
              have hW : ∀ a : Addr, a.block < W0.heap.size → w2.cell? a = W0.cell? a := fun a ha => (h2.cell (p := a) (show a.block < (W0.alloc (.cells #[.int .i64 p.ops[n].p, .int .i64 q, .int .i64 p.ops[n].d, .int .i64 p.ops[n].a, .int .i64 p.ops[n].b, .int .i64 p.ops[n].r, .int .i64 p.ops[n].c, .int .i64 p.ops[n].e] 48)).heap.size by simp; omega)).trans (World.cell?_alloc_lt W0 _ a ha)
              have hN : ∀ i, w2.cell? ⟨W0.heap.size, i, none⟩ = (W0.alloc (.cells #[.int .i64 p.ops[n].p, .int .i64 q, .int .i64 p.ops[n].d, .int .i64 p.ops[n].a, .int .i64 p.ops[n].b, .int .i64 p.ops[n].r, .int .i64 p.ops[n].c, .int .i64 p.ops[n].e] 48)).cell? ⟨W0.heap.size, i, none⟩ := fun i => h2.cell (p := ⟨W0.heap.size, i, none⟩) (show W0.heap.size < (W0.alloc (.cells #[.int .i64 p.ops[n].p, .int .i64 q, .int .i64 p.ops[n].d, .int .i64 p.ops[n].a, .int .i64 p.ops[n].b, .int .i64 p.ops[n].r, .int .i64 p.ops[n].c, .int .i64 p.ops[n].e] 48)).heap.size by simp)
              refine ⟨(hW _ (by show p.B < _; omega)).trans b0', (hW _ (by show p.B < _; omega)).trans bq', ?_, ?_, ?_, ?_, ?_, ?_, ?_, ?_, HW1.out.trans (h2.mono HW1.out.size)⟩
              all_goals (rw [hN]; simp))
            clear hW0 b0 b1 b7 b4 bq c0 c1 c2 c3 c4 c5 c6 c7 hwc hbW hsW
            go_wp2_with fail
            go_region_held3 (fun w' => w'.cell? ⟨p.B, 0, none⟩ = some (.int .i64 p.o) ∧ w'.cell? ⟨p.B, 8 + q, none⟩ = some (vs q) ∧ w'.cell? ⟨W0.heap.size, 0, none⟩ = some (.int .i64 p.ops[n].p) ∧ w'.cell? ⟨W0.heap.size, 1, none⟩ = some (.int .i64 q) ∧ w'.cell? ⟨W0.heap.size, 2, none⟩ = some (.int .i64 p.ops[n].d) ∧ w'.cell? ⟨W0.heap.size, 3, none⟩ = some (.int .i64 p.ops[n].a) ∧ w'.cell? ⟨W0.heap.size, 4, none⟩ = some (.int .i64 p.ops[n].b) ∧ w'.cell? ⟨W0.heap.size, 5, none⟩ = some (.int .i64 p.ops[n].r) ∧ w'.cell? ⟨W0.heap.size, 6, none⟩ = some (.int .i64 p.ops[n].c) ∧ w'.cell? ⟨W0.heap.size, 7, none⟩ = some (.int .i64 p.ops[n].e)) (go_keep)
              (first | (go_at_call 96; refine (HC.out _ HW1.out).mono ?_; rintro e w2 ⟨hb2, v2, rfl, hr2⟩; have HRW := hideIt (hr2.base (base' := w.heap.size) HW1.out.size); clear hr2; obtain ⟨p0, pq, p1, p2, p3, p4, p5, p6, p7, p8, hb3⟩ := HK2.out w2 hb2; have HB3 := hideIt hb3; clear hb2 hb3))
            go_wp2_with fail
            go_quiet (fail)
            go_wp2
            go_ret2
            exact ⟨below_drewN HB3.out _, by rw [HR.out]; exact ⟨_, rfl⟩⟩
          · have HR : Hid (stepN p.sr S ord n = some st) := hideIt (by rw [HST.out, HT.out, hst]; simp [he, hz])
            rw [hst] at HC
            clear hst HT HST
            go_enter Tryd.func85, Tryd.ntmps85
            go_wp2_with fail
            go_quiet (first | (go_at_call 95; exact Calls.quiet_of_same (HHAS.out _)) | (go_at_call 83; exact Calls.quiet_of_same (HCOV.out _)))
            generalize hW0 : w.drewN nq = W0
            obtain ⟨⟨b0', b1', bq', c0', c1', c2', c3', c4', c5', c6', c7'⟩, hbW, hsW⟩ := HALL.out nq W0 hW0
            have HW1 : Hid (Below w.heap.size w (W0.alloc (.cells #[.int .i64 p.ops[n].p, .int .i64 q, .int .i64 p.ops[n].d, .int .i64 p.ops[n].a, .int .i64 p.ops[n].b, .int .i64 p.ops[n].r, .int .i64 p.ops[n].c, .int .i64 p.ops[n].e] 48)).drew) := hideIt ((hbW.alloc (by omega) _).drew)
            have HK2 : Hid (∀ w2, Below (W0.alloc (.cells #[.int .i64 p.ops[n].p, .int .i64 q, .int .i64 p.ops[n].d, .int .i64 p.ops[n].a, .int .i64 p.ops[n].b, .int .i64 p.ops[n].r, .int .i64 p.ops[n].c, .int .i64 p.ops[n].e] 48)).drew.heap.size (W0.alloc (.cells #[.int .i64 p.ops[n].p, .int .i64 q, .int .i64 p.ops[n].d, .int .i64 p.ops[n].a, .int .i64 p.ops[n].b, .int .i64 p.ops[n].r, .int .i64 p.ops[n].c, .int .i64 p.ops[n].e] 48)).drew w2 → w2.cell? ⟨p.B, 0, none⟩ = some (.int .i64 p.o) ∧ w2.cell? ⟨p.B, 8 + q, none⟩ = some (vs q) ∧ w2.cell? ⟨W0.heap.size, 0, none⟩ = some (.int .i64 p.ops[n].p) ∧ w2.cell? ⟨W0.heap.size, 1, none⟩ = some (.int .i64 q) ∧ w2.cell? ⟨W0.heap.size, 2, none⟩ = some (.int .i64 p.ops[n].d) ∧ w2.cell? ⟨W0.heap.size, 3, none⟩ = some (.int .i64 p.ops[n].a) ∧ w2.cell? ⟨W0.heap.size, 4, none⟩ = some (.int .i64 p.ops[n].b) ∧ w2.cell? ⟨W0.heap.size, 5, none⟩ = some (.int .i64 p.ops[n].r) ∧ w2.cell? ⟨W0.heap.size, 6, none⟩ = some (.int .i64 p.ops[n].c) ∧ w2.cell? ⟨W0.heap.size, 7, none⟩ = some (.int .i64 p.ops[n].e) ∧ Below w.heap.size w w2) := hideIt (fun w2 h2 => by
              have hW : ∀ a : Addr, a.block < W0.heap.size → w2.cell? a = W0.cell? a := fun a ha => (h2.cell (p := a) (show a.block < (W0.alloc (.cells #[.int .i64 p.ops[n].p, .int .i64 q, .int .i64 p.ops[n].d, .int .i64 p.ops[n].a, .int .i64 p.ops[n].b, .int .i64 p.ops[n].r, .int .i64 p.ops[n].c, .int .i64 p.ops[n].e] 48)).heap.size by simp; omega)).trans (World.cell?_alloc_lt W0 _ a ha)
              have hN : ∀ i, w2.cell? ⟨W0.heap.size, i, none⟩ = (W0.alloc (.cells #[.int .i64 p.ops[n].p, .int .i64 q, .int .i64 p.ops[n].d, .int .i64 p.ops[n].a, .int .i64 p.ops[n].b, .int .i64 p.ops[n].r, .int .i64 p.ops[n].c, .int .i64 p.ops[n].e] 48)).cell? ⟨W0.heap.size, i, none⟩ := fun i => h2.cell (p := ⟨W0.heap.size, i, none⟩) (show W0.heap.size < (W0.alloc (.cells #[.int .i64 p.ops[n].p, .int .i64 q, .int .i64 p.ops[n].d, .int .i64 p.ops[n].a, .int .i64 p.ops[n].b, .int .i64 p.ops[n].r, .int .i64 p.ops[n].c, .int .i64 p.ops[n].e] 48)).heap.size by simp)
              refine ⟨(hW _ (by show p.B < _; omega)).trans b0', (hW _ (by show p.B < _; omega)).trans bq', ?_, ?_, ?_, ?_, ?_, ?_, ?_, ?_, HW1.out.trans (h2.mono HW1.out.size)⟩
              all_goals (rw [hN]; simp))
            clear hW0 b0 b1 b7 b4 bq c0 c1 c2 c3 c4 c5 c6 c7 hwc hbW hsW
            go_wp2_with fail
            go_region_held3 (fun w' => w'.cell? ⟨p.B, 0, none⟩ = some (.int .i64 p.o) ∧ w'.cell? ⟨p.B, 8 + q, none⟩ = some (vs q) ∧ w'.cell? ⟨W0.heap.size, 0, none⟩ = some (.int .i64 p.ops[n].p) ∧ w'.cell? ⟨W0.heap.size, 1, none⟩ = some (.int .i64 q) ∧ w'.cell? ⟨W0.heap.size, 2, none⟩ = some (.int .i64 p.ops[n].d) ∧ w'.cell? ⟨W0.heap.size, 3, none⟩ = some (.int .i64 p.ops[n].a) ∧ w'.cell? ⟨W0.heap.size, 4, none⟩ = some (.int .i64 p.ops[n].b) ∧ w'.cell? ⟨W0.heap.size, 5, none⟩ = some (.int .i64 p.ops[n].r) ∧ w'.cell? ⟨W0.heap.size, 6, none⟩ = some (.int .i64 p.ops[n].c) ∧ w'.cell? ⟨W0.heap.size, 7, none⟩ = some (.int .i64 p.ops[n].e)) (go_keep)
              (first | (go_at_call 96; refine (HC.out _ HW1.out).mono ?_; rintro e w2 ⟨hb2, v2, rfl, hr2⟩; have HRW := hideIt (hr2.base (base' := w.heap.size) HW1.out.size); clear hr2; obtain ⟨p0, pq, p1, p2, p3, p4, p5, p6, p7, p8, hb3⟩ := HK2.out w2 hb2; have HB3 := hideIt hb3; clear hb2 hb3))
            go_wp2_with fail
            go_quiet (fail)
            go_wp2
            go_ret2
            exact ⟨below_drewN HB3.out _, by rw [HR.out]; exact ⟨_, rfl, HRW.out⟩⟩
        · have HR : Hid (stepN p.sr S ord n = some st) := hideIt (by rw [HST.out, HT.out, hst]; simp [he])
          rw [hst] at HC
          clear hst HT HST
          go_enter Tryd.func85, Tryd.ntmps85
          go_wp2_with fail
          go_quiet (first | (go_at_call 95; exact Calls.quiet_of_same (HHAS.out _)) | (go_at_call 83; exact Calls.quiet_of_same (HCOV.out _)))
          generalize hW0 : w.drewN nq = W0
          obtain ⟨⟨b0', b1', bq', c0', c1', c2', c3', c4', c5', c6', c7'⟩, hbW, hsW⟩ := HALL.out nq W0 hW0
          have HW1 : Hid (Below w.heap.size w (W0.alloc (.cells #[.int .i64 p.ops[n].p, .int .i64 q, .int .i64 p.ops[n].d, .int .i64 p.ops[n].a, .int .i64 p.ops[n].b, .int .i64 p.ops[n].r, .int .i64 p.ops[n].c, .int .i64 p.ops[n].e] 48)).drew) := hideIt ((hbW.alloc (by omega) _).drew)
          have HK2 : Hid (∀ w2, Below (W0.alloc (.cells #[.int .i64 p.ops[n].p, .int .i64 q, .int .i64 p.ops[n].d, .int .i64 p.ops[n].a, .int .i64 p.ops[n].b, .int .i64 p.ops[n].r, .int .i64 p.ops[n].c, .int .i64 p.ops[n].e] 48)).drew.heap.size (W0.alloc (.cells #[.int .i64 p.ops[n].p, .int .i64 q, .int .i64 p.ops[n].d, .int .i64 p.ops[n].a, .int .i64 p.ops[n].b, .int .i64 p.ops[n].r, .int .i64 p.ops[n].c, .int .i64 p.ops[n].e] 48)).drew w2 → w2.cell? ⟨p.B, 0, none⟩ = some (.int .i64 p.o) ∧ w2.cell? ⟨p.B, 8 + q, none⟩ = some (vs q) ∧ w2.cell? ⟨W0.heap.size, 0, none⟩ = some (.int .i64 p.ops[n].p) ∧ w2.cell? ⟨W0.heap.size, 1, none⟩ = some (.int .i64 q) ∧ w2.cell? ⟨W0.heap.size, 2, none⟩ = some (.int .i64 p.ops[n].d) ∧ w2.cell? ⟨W0.heap.size, 3, none⟩ = some (.int .i64 p.ops[n].a) ∧ w2.cell? ⟨W0.heap.size, 4, none⟩ = some (.int .i64 p.ops[n].b) ∧ w2.cell? ⟨W0.heap.size, 5, none⟩ = some (.int .i64 p.ops[n].r) ∧ w2.cell? ⟨W0.heap.size, 6, none⟩ = some (.int .i64 p.ops[n].c) ∧ w2.cell? ⟨W0.heap.size, 7, none⟩ = some (.int .i64 p.ops[n].e) ∧ Below w.heap.size w w2) := hideIt (fun w2 h2 => by
            have hW : ∀ a : Addr, a.block < W0.heap.size → w2.cell? a = W0.cell? a := fun a ha => (h2.cell (p := a) (show a.block < (W0.alloc (.cells #[.int .i64 p.ops[n].p, .int .i64 q, .int .i64 p.ops[n].d, .int .i64 p.ops[n].a, .int .i64 p.ops[n].b, .int .i64 p.ops[n].r, .int .i64 p.ops[n].c, .int .i64 p.ops[n].e] 48)).heap.size by simp; omega)).trans (World.cell?_alloc_lt W0 _ a ha)
            have hN : ∀ i, w2.cell? ⟨W0.heap.size, i, none⟩ = (W0.alloc (.cells #[.int .i64 p.ops[n].p, .int .i64 q, .int .i64 p.ops[n].d, .int .i64 p.ops[n].a, .int .i64 p.ops[n].b, .int .i64 p.ops[n].r, .int .i64 p.ops[n].c, .int .i64 p.ops[n].e] 48)).cell? ⟨W0.heap.size, i, none⟩ := fun i => h2.cell (p := ⟨W0.heap.size, i, none⟩) (show W0.heap.size < (W0.alloc (.cells #[.int .i64 p.ops[n].p, .int .i64 q, .int .i64 p.ops[n].d, .int .i64 p.ops[n].a, .int .i64 p.ops[n].b, .int .i64 p.ops[n].r, .int .i64 p.ops[n].c, .int .i64 p.ops[n].e] 48)).heap.size by simp)
            refine ⟨(hW _ (by show p.B < _; omega)).trans b0', (hW _ (by show p.B < _; omega)).trans bq', ?_, ?_, ?_, ?_, ?_, ?_, ?_, ?_, HW1.out.trans (h2.mono HW1.out.size)⟩
            all_goals (rw [hN]; simp))
          clear hW0 b0 b1 b7 b4 bq c0 c1 c2 c3 c4 c5 c6 c7 hwc hbW hsW
          go_wp2_with fail
          go_region_held3 (fun w' => w'.cell? ⟨p.B, 0, none⟩ = some (.int .i64 p.o) ∧ w'.cell? ⟨p.B, 8 + q, none⟩ = some (vs q) ∧ w'.cell? ⟨W0.heap.size, 0, none⟩ = some (.int .i64 p.ops[n].p) ∧ w'.cell? ⟨W0.heap.size, 1, none⟩ = some (.int .i64 q) ∧ w'.cell? ⟨W0.heap.size, 2, none⟩ = some (.int .i64 p.ops[n].d) ∧ w'.cell? ⟨W0.heap.size, 3, none⟩ = some (.int .i64 p.ops[n].a) ∧ w'.cell? ⟨W0.heap.size, 4, none⟩ = some (.int .i64 p.ops[n].b) ∧ w'.cell? ⟨W0.heap.size, 5, none⟩ = some (.int .i64 p.ops[n].r) ∧ w'.cell? ⟨W0.heap.size, 6, none⟩ = some (.int .i64 p.ops[n].c) ∧ w'.cell? ⟨W0.heap.size, 7, none⟩ = some (.int .i64 p.ops[n].e)) (go_keep)
            (first | (go_at_call 96; refine (HC.out _ HW1.out).mono ?_; rintro e w2 ⟨hb2, v2, rfl, hr2⟩; have HRW := hideIt (hr2.base (base' := w.heap.size) HW1.out.size); clear hr2; obtain ⟨p0, pq, p1, p2, p3, p4, p5, p6, p7, p8, hb3⟩ := HK2.out w2 hb2; have HB3 := hideIt hb3; clear hb2 hb3))
          go_wp2_with fail
          go_quiet (fail)
          go_wp2
          go_ret2
          exact ⟨below_drewN HB3.out _, by rw [HR.out]; exact ⟨_, rfl, HRW.out⟩⟩
  · rw [h1] at HHAS HFR
    have HF : Hid (freeB p.sr ord n = false) := hideIt (by rw [← HFR.out]; rfl)
    clear h1
    go_enter Tryd.func85, Tryd.ntmps85
    go_wp2_with fail
    go_quiet ((go_at_call 95; exact Calls.quiet_of_same (HHAS.out _)))
    go_wp2
    go_ret2
    exact HN.out HF.out _ (below_drewN (Below.refl _ _) _)

end Go.Proofs.YtfojmbbhcmeejaaDoor
