/-
  The document's Linear: walked.
-/
import Derived.Test.YtkbjaneekblgmaaGreatDoorAtW
import Derived.Test.YtkbjaneekblgmaaGreatDoorVisitWZ
import Derived.Deep.RegionHeld3
import Derived.Deep.DeepCutAuto
namespace Go.Proofs.YtkbjaneekblgmaaGreatDoor
open Go.RowKit

/-- What Linear tells. -/
def LnTold (w : World) (r : Res) (e : Ending) (w' : World) : Prop :=
  Below w.heap.size w w' ∧ ∃ ov, e = .returned (.agg #[.int .i64 (r.code : Int), ov, .int .i64 (r.ent.length : Int)]) ∧ (r.code = 1 → w'.ownsRow w.heap.size 3 1 ov r.ord.length (ordV r.ord)) ∧ (r.code ≠ 1 → ov = .slice none 0 0)

theorem refStart_call (o : Int) (W : World) : ∃ a l c w2, (Calls Tryz.prog 21 #[.int .i64 o] W fun e w' => e = .returned (.slice a l c) ∧ w' = w2) ∧ RowAt w2 W.heap.size (.slice a l c) (startL o) ∧ W.grownBy w2 none := by
  have h := startAt W o
  obtain ⟨a, l, c, e⟩ := h.slice
  refine ⟨a, l, c, startW W o, ?_, e ▸ h, startGrown W o⟩
  have := refStart_any o W
  rw [e] at this
  exact this

/-- Ahead of the search: its blocks, and the states made so far. -/
structure PreD (p : Par) (sm : Bool) (s k : Nat) (w : World) (vs : Nat → Value) (wr : World) : Prop where
  res : wr.heap[s]? = some (.cells #[.int .i64 0, .slice none 0 0, .int .i64 0] 37 (0, 0))
  map : wr.heap[s + 1]? = some (.map #[] 0)
  blk : wr.heap[s + 2]? = some (.cells (fblk p sm (.slice none 0 0)) 60 (0, 0))
  st : wr.heap[s + 3]? = some (.cells (stA vs) 46 (0, 0))
  rows : ∀ q, q < 8 → RowAt wr s (vs q) (if q < k then startL p.o else [])
  below : Below s w wr

set_option maxRecDepth 100000 in
set_option maxHeartbeats 4000000 in
theorem linear_any (o : Int) (bud : Nat) (sm : Bool) (ops : List Opn) (u : Value) (w : World) (hl : OpsIn w u ops) (hD : DebAt w) (hP : PowAt w) (h4 : 4 < w.heap.size)
    (hok : ∀ fn wv b0 B M, ParOK ⟨o, ops, ahB sm, bud, u, fn, wv, b0, B, M⟩) :
    Calls Tryz.prog 12 #[.int .i64 o, u, .int .i64 bud, .bool sm] w fun e w' => LnTold w (searchM ⟨o, ops, ahB sm, bud, nameD Lib.itoa⟩) e w' := by
  have hmm := @run_makeMap Tryz.prog
  have HL := hideIt hl
  have HOK := hideIt (hok nilS nilS w.heap.size (w.heap.size + 2) (w.heap.size + 1))
  obtain ⟨ua, ucap, rfl, huc, hum, hu3⟩ := hl
  obtain ⟨p, hp⟩ : ∃ p : Par, p = ⟨o, ops, ahB sm, bud, .slice ua ops.length ucap, nilS, nilS, w.heap.size, w.heap.size + 2, w.heap.size + 1⟩ := ⟨_, rfl⟩
  have HP := hideIt hp
  rw [← hp] at HOK
  have HUB : Hid (∀ a n c, p.u = .slice (some a) n c → 0 < n → a.block < p.b0) := hideIt (fun a n c e hn => by
    rw [hp] at e ⊢
    simp at e
    obtain ⟨rfl, rfl, rfl⟩ := e
    rcases hu3 with h | ⟨b, off, e, hb, _⟩
    · rw [h] at hn; simp at hn
    · simp at e; subst e; exact hb)
  have HDD := hideIt hD
  have HPP := hideIt hP
  clear hp hu3 hD hP hok
  go_enter Tryz.func12, Tryz.ntmps12
  go_wp2_with fail
  go_loopw [20] (fun i wr => ∃ (k : Nat) (vs : Nat → Value), k ≤ 8 ∧ i = .int .i64 k ∧ PreD p sm w.heap.size k w vs wr) (fun i _ => 8 - (intOf i).toNat)
  case atStart =>
    refine ⟨0, fun _ => .slice none 0 0, by omega, rfl, ?_⟩
    have e3 := heap_alloc_new (((w.alloc (.cells #[.int .i64 0, .slice none 0 0, .int .i64 0] 37)).alloc (.map #[] 0)).alloc (.cells #[.int .i64 o, .slice ua ops.length ucap, .bool sm, .int .i64 bud, .map (some (w.heap.size + 1)), .slice none 0 0] 60)) (.cells (stA fun _ => .slice none 0 0) 46)
    have e2 := heap_alloc_new ((w.alloc (.cells #[.int .i64 0, .slice none 0 0, .int .i64 0] 37)).alloc (.map #[] 0)) (.cells #[.int .i64 o, .slice ua ops.length ucap, .bool sm, .int .i64 bud, .map (some (w.heap.size + 1)), .slice none 0 0] 60)
    have e1 := heap_alloc_new (w.alloc (.cells #[.int .i64 0, .slice none 0 0, .int .i64 0] 37)) (.map #[] 0)
    have e0 := heap_alloc_new w (.cells #[.int .i64 0, .slice none 0 0, .int .i64 0] 37)
    have s1 : (w.alloc (.cells #[.int .i64 0, .slice none 0 0, .int .i64 0] 37)).heap.size = w.heap.size + 1 := by simp
    have s2 : ((w.alloc (.cells #[.int .i64 0, .slice none 0 0, .int .i64 0] 37)).alloc (.map #[] 0)).heap.size = w.heap.size + 2 := by simp
    have s3 : (((w.alloc (.cells #[.int .i64 0, .slice none 0 0, .int .i64 0] 37)).alloc (.map #[] 0)).alloc (.cells #[.int .i64 o, .slice ua ops.length ucap, .bool sm, .int .i64 bud, .map (some (w.heap.size + 1)), .slice none 0 0] 60)).heap.size = w.heap.size + 3 := by simp
    rw [s3] at e3
    rw [s2] at e2
    rw [s1] at e1
    refine ⟨?_, ?_, ?_, e3, fun q _ => rowAt_nil _ _, belA (belA (belA (belA (Below.refl _ _) _) _) _) _⟩
    · rw [Below.heap_alloc _ _ _ (by rw [s3]; omega), Below.heap_alloc _ _ _ (by rw [s2]; omega), Below.heap_alloc _ _ _ (by rw [s1]; omega)]; exact e0
    · rw [Below.heap_alloc _ _ _ (by rw [s3]; omega), Below.heap_alloc _ _ _ (by rw [s2]; omega)]; exact e1
    · rw [Below.heap_alloc _ _ _ (by rw [s3]; omega), e2, HP.out]; rfl
  case round =>
    obtain ⟨k, vs, hk, rfl, hpre⟩ := hrel
    have HPR := hideIt hpre
    by_cases hkl : k < 8
    · obtain ⟨a, l, c, w2, hcall, hrow, hg2⟩ := refStart_call o wr
      have HC := hideIt hcall
      have k1 : (0 : Int) ≤ (k : Int) := by omega
      have k2 : (k : Int) < 8 := by omega
      have hwr : IntKind.i64.wrap ((k : Int) + 1) = (k : Int) + 1 := by rw [IntKind.wrap_i64]; omega
      have hT : w2.heap[w.heap.size + 3]? = some (.cells (stA vs) 46 (0, 0)) := (hg2.block _ (lt_of_heap hpre.st) (by simp)).trans hpre.st
      have c1 : w2.cell? ⟨w.heap.size + 1 + 1 + 1, k, none⟩ = some (vs k) := (cell_of_row w2 _ _ _ 46 (0, 0) hT).trans (stA_at vs k hkl)
      have c2 : w2.frozen? ⟨w.heap.size + 1 + 1 + 1, k, none⟩ = false := frozen_of_row w2 _ _ _ 46 hT
      have HN : Hid (PreD p sm w.heap.size (k + 1) w (setV vs k (.slice a l c)) (w2.setCell ⟨w.heap.size + 1 + 1 + 1, k, none⟩ (.slice a l c))) := hideIt (by
        have hb2 : Below w.heap.size w w2 := ⟨hg2.os.trans hpre.below.os, hg2.tape.trans hpre.below.tape, hg2.output.trans hpre.below.output, Nat.le_trans hpre.below.size hg2.size, fun i hi => (hg2.block i (by have := hpre.below.size; omega) (by simp)).trans (hpre.below.block i hi)⟩
        have hss := lt_of_heap hpre.st
        have hset : ∀ b, b ≠ w.heap.size + 3 → b < wr.heap.size → (w2.setCell ⟨w.heap.size + 1 + 1 + 1, k, none⟩ (.slice a l c)).heap[b]? = wr.heap[b]? := fun b hb hlt => (Below.heap_setCell _ _ _ _ hb).trans (hg2.block b hlt (by simp))
        refine ⟨(hset _ (by omega) (lt_of_heap hpre.res)).trans hpre.res, (hset _ (by omega) (lt_of_heap hpre.map)).trans hpre.map, (hset _ (by omega) (lt_of_heap hpre.blk)).trans hpre.blk, ?_, fun q hq => ?_, hb2.setCell (p := ⟨w.heap.size + 1 + 1 + 1, k, none⟩) (by show w.heap.size ≤ w.heap.size + 1 + 1 + 1; omega) _⟩
        · rw [← stA_set vs k hkl]
          have : (w2.setCell ⟨w.heap.size + 1 + 1 + 1, k, none⟩ (.slice a l c)).heap[w.heap.size + 1 + 1 + 1]? = some (.cells ((stA vs).setIfInBounds k (.slice a l c)) 46 (0, 0)) := by
            simp [World.setCell, Array.getElem?_modify, hT]
          exact this
        · by_cases e : q = k
          · subst e
            have hr : RowAt w2 w.heap.size (.slice a l c) (startL p.o) := by
              rw [HP.out]
              exact hrow.base hpre.below.size
            rw [if_pos (by omega)]
            refine (show RowAt w2 w.heap.size (setV vs q (.slice a l c) q) (startL p.o) by simpa [setV] using hr).same (fun b hb => Below.heap_setCell _ _ _ _ (fun e => ?_))
            have h1 := (hrow.lt b (by simpa [setV] using hb)).1
            have : b = w.heap.size + 1 + 1 + 1 := e
            omega
          · have hr := hpre.rows q hq
            have e2 : (if q < k + 1 then startL p.o else []) = (if q < k then startL p.o else []) := by
              by_cases h : q < k
              · rw [if_pos h, if_pos (by omega)]
              · rw [if_neg h, if_neg (by omega)]
            rw [e2]
            have e3 : setV vs k (.slice a l c) q = vs q := by simp [setV, e]
            rw [e3]
            refine (hr.same (fun b hb => hg2.block b (hr.lt b hb).2 (by simp))).same (fun b hb => Below.heap_setCell _ _ _ _ (fun e => ?_))
            obtain ⟨_, _, cur, hc⟩ := hr.block b hb
            have : b = w.heap.size + 3 := e
            rw [this, hpre.st] at hc
            simp at hc)
      clear hpre hrow hg2 hT hcall
      go_wp2_with (go_at_call 21; refine HC.out.mono ?_; rintro e w' ⟨rfl, rfl⟩)
      go_roundw
      case rel => exact ⟨k + 1, _, by omega, by go_num, HN.out⟩
      case measure => simp [intOf]; omega
    · obtain rfl : k = 8 := by omega
      rw [show ((8 : Nat) : Int) = 8 from rfl]
      rename World => W1
      have hsz := hpre.below.size
      have h1 : FndAt p sm W1 [] (fun _ => startL p.o) vs (.slice none 0 0) [] := by
        have eB : p.B = w.heap.size + 2 := by rw [HP.out]
        have eM : p.M = w.heap.size + 1 := by rw [HP.out]
        have e0 : p.b0 = w.heap.size := by rw [HP.out]
        have eO : p.ops = ops := by rw [HP.out]
        have eU : p.u = .slice ua ops.length ucap := by rw [HP.out]
        have hbel := hpre.below
        refine ⟨by rw [eB]; exact hpre.blk, fun q hq => ?_, (fun k hk b _ e => by cases e), World.ownsRow_nil _ _ _ _, ?_, by rw [eU, eO]; exact HL.out.below hbel, HUB.out, deb_below HDD.out h4 hbel, pow_below HPP.out h4 hbel, by rw [e0]; exact h4, by rw [e0, eB]; omega, by rw [e0, eM]; omega⟩
        · have := hpre.rows q hq
          rw [if_pos hq] at this
          rw [e0]; exact this
        · have hm := setB_made (w.alloc (.cells #[.int .i64 0, .slice none 0 0, .int .i64 0] 37))
          have s1 : (w.alloc (.cells #[.int .i64 0, .slice none 0 0, .int .i64 0] 37)).heap.size = w.heap.size + 1 := by simp
          have e1 := heap_alloc_new (w.alloc (.cells #[.int .i64 0, .slice none 0 0, .int .i64 0] 37)) (.map #[] 0)
          rw [s1] at hm e1
          rw [eM]
          exact hm.same (hpre.map.trans e1.symm)
      have HAT : Hid (∀ W, W1.grownBy W none → Calls Tryz.prog 22 #[.pointer (some ⟨w.heap.size + 1 + 1, 0, none⟩), .int .u64 0, .agg #[vs 0, vs 1, vs 2, vs 3, vs 4, vs 5, vs 6, vs 7]] W fun e w' => ATold p sm W (fun _ => startL p.o) vs (.slice none 0 0) (searchM ⟨o, ops, ahB sm, bud, nameD Lib.itoa⟩) e w') := hideIt (fun W hW => by
        have h := at_any p sm HOK.out (by rw [HP.out]) (ops.length + 1) [] (fun _ => startL p.o) vs (.slice none 0 0) [] W (h1.grown hW) Reach.start (by rw [HP.out]; simp) (Nat.zero_le _)
        have eB : p.B = w.heap.size + 1 + 1 := by rw [HP.out]
        rw [eB] at h
        have eS : searchM ⟨o, ops, ahB sm, bud, nameD Lib.itoa⟩ = visitM p.srD (ops.length + 1) (fun _ => startL p.o) [] [] := by
          rw [HP.out]; rfl
        rw [eS]
        exact h)
      have tc : ∀ i, W1.cell? ⟨w.heap.size + 1 + 1 + 1, i, none⟩ = (stA vs)[i]? := fun i => cell_of_row W1 _ _ _ 46 (0, 0) hpre.st
      have t0 : W1.cell? ⟨w.heap.size + 1 + 1 + 1, 0, none⟩ = some (vs 0) := tc 0
      have t1 : W1.cell? ⟨w.heap.size + 1 + 1 + 1, 1, none⟩ = some (vs 1) := tc 1
      have t2 : W1.cell? ⟨w.heap.size + 1 + 1 + 1, 2, none⟩ = some (vs 2) := tc 2
      have t3 : W1.cell? ⟨w.heap.size + 1 + 1 + 1, 3, none⟩ = some (vs 3) := tc 3
      have t4 : W1.cell? ⟨w.heap.size + 1 + 1 + 1, 4, none⟩ = some (vs 4) := tc 4
      have t5 : W1.cell? ⟨w.heap.size + 1 + 1 + 1, 5, none⟩ = some (vs 5) := tc 5
      have t6 : W1.cell? ⟨w.heap.size + 1 + 1 + 1, 6, none⟩ = some (vs 6) := tc 6
      have t7 : W1.cell? ⟨w.heap.size + 1 + 1 + 1, 7, none⟩ = some (vs 7) := tc 7
      have H1 := hideIt h1
      obtain ⟨R, hR⟩ : ∃ R, searchM ⟨o, ops, ahB sm, bud, nameD Lib.itoa⟩ = R := ⟨_, rfl⟩
      rw [hR] at HAT
      have HK : Hid (∀ w2, (∃ ov2, FndAt p sm w2 R.ord (fun _ => startL p.o) vs ov2 R.ent ∧ VFr p (.slice none 0 0) W1 ov2 w2) → ∃ a2 c2, FndAt p sm w2 R.ord (fun _ => startL p.o) vs (.slice a2 R.ord.length c2) R.ent ∧ w2.heap[w.heap.size]? = some (.cells #[.int .i64 0, .slice none 0 0, .int .i64 0] 37 (0, 0)) ∧ w2.cell? ⟨w.heap.size + 1 + 1, 4, none⟩ = some (.map (some (w.heap.size + 1))) ∧ w2.cell? ⟨w.heap.size + 1 + 1, 5, none⟩ = some (.slice a2 R.ord.length c2) ∧ (∀ ob ty, (Builtin.len_ #[58] ty #[.map (some (w.heap.size + 1))]).run Tryz.prog (w2.alloc ob) = .ok (.int .i64 (R.ent.length : Int)) (w2.alloc ob)) ∧ Below w.heap.size w w2) := hideIt (fun w2 h => by
        obtain ⟨ov2, h2, hv2⟩ := h
        have eB : p.B = w.heap.size + 1 + 1 := by rw [HP.out]
        have eM : p.M = w.heap.size + 1 := by rw [HP.out]
        have e0 : p.b0 = w.heap.size := by rw [HP.out]
        obtain ⟨a2, c2, e⟩ := ownsRow_slice h2.ordr
        subst e
        have hbel : Below w.heap.size w w2 := by
          have := hv2.below H1.out.b0B H1.out.b0M (fun b e => by cases e) H1.out.lo
          rw [e0] at this
          exact hpre.below.trans this
        refine ⟨a2, c2, h2, ?_, ?_, ?_, fun ob ty => ?_, hbel⟩
        · have := hv2.same w.heap.size (lt_of_heap hpre.res) (by rw [eB]; omega) (by rw [eM]; omega) (by simp [Value.ownBlock]) (.inr fun c fz e => by rw [hpre.res] at e; simp at e)
          exact this.trans hpre.res
        · have := fblk_cell h2.blk 4
          rw [eB] at this
          rw [this, ← eM]; rfl
        · have := fblk_cell h2.blk 5
          rw [eB] at this
          exact this
        · obtain ⟨es, clock, hm⟩ := h2.set.isMap
          have := (h2.set.same (w' := w2.alloc ob) (Below.heap_alloc w2 ob p.M (lt_of_heap hm))).len ty
          rw [eM] at this
          exact this)
      clear tc h1 hpre
      have HRR := hideIt hR
      have HFIN : Hid (∀ w2 a2 c2 (v1 : Value) (ob : Obj), FndAt p sm w2 R.ord (fun _ => startL p.o) vs (.slice a2 R.ord.length c2) R.ent → w2.heap[w.heap.size]? = some (.cells #[.int .i64 0, .slice none 0 0, .int .i64 0] 37 (0, 0)) → Below w.heap.size w w2 → (R.code = 1 → v1 = .slice a2 R.ord.length c2) → (R.code ≠ 1 → v1 = .slice none 0 0) → LnTold w (searchM ⟨o, ops, ahB sm, bud, nameD Lib.itoa⟩) (.returned (.agg #[.int .i64 (R.code : Int), v1, .int .i64 (R.ent.length : Int)])) ((((w2.setCell ⟨w.heap.size, 0, none⟩ (.int .i64 (R.code : Int))).setCell ⟨w.heap.size, 1, none⟩ v1).setCell ⟨w.heap.size, 2, none⟩ (.int .i64 (R.ent.length : Int))).alloc ob) ∧ ((((w2.setCell ⟨w.heap.size, 0, none⟩ (.int .i64 (R.code : Int))).setCell ⟨w.heap.size, 1, none⟩ v1).setCell ⟨w.heap.size, 2, none⟩ (.int .i64 (R.ent.length : Int))).alloc ob).cell? ⟨w.heap.size, 0, none⟩ = some (.int .i64 (R.code : Int)) ∧ ((((w2.setCell ⟨w.heap.size, 0, none⟩ (.int .i64 (R.code : Int))).setCell ⟨w.heap.size, 1, none⟩ v1).setCell ⟨w.heap.size, 2, none⟩ (.int .i64 (R.ent.length : Int))).alloc ob).cell? ⟨w.heap.size, 1, none⟩ = some v1 ∧ ((((w2.setCell ⟨w.heap.size, 0, none⟩ (.int .i64 (R.code : Int))).setCell ⟨w.heap.size, 1, none⟩ v1).setCell ⟨w.heap.size, 2, none⟩ (.int .i64 (R.ent.length : Int))).alloc ob).cell? ⟨w.heap.size, 2, none⟩ = some (.int .i64 (R.ent.length : Int))) := hideIt (fun w2 a2 c2 v1 ob h2 hr0 hbw h1 hn => by
        have hE : (((w2.setCell ⟨w.heap.size, 0, none⟩ (.int .i64 (R.code : Int))).setCell ⟨w.heap.size, 1, none⟩ v1).setCell ⟨w.heap.size, 2, none⟩ (.int .i64 (R.ent.length : Int))).heap[w.heap.size]? = some (.cells #[.int .i64 (R.code : Int), v1, .int .i64 (R.ent.length : Int)] 37 (0, 0)) := by
          simp [World.setCell, Array.getElem?_modify, hr0]
        have hE2 := (Below.heap_alloc (((w2.setCell ⟨w.heap.size, 0, none⟩ (.int .i64 (R.code : Int))).setCell ⟨w.heap.size, 1, none⟩ v1).setCell ⟨w.heap.size, 2, none⟩ (.int .i64 (R.ent.length : Int))) ob _ (lt_of_heap hE)).trans hE
        refine ⟨?_, cell_of_row _ _ _ _ 37 (0, 0) hE2, cell_of_row _ _ _ _ 37 (0, 0) hE2, cell_of_row _ _ _ _ 37 (0, 0) hE2⟩
        rw [HRR.out]
        refine ⟨belA (((hbw.setCell (p := ⟨w.heap.size, 0, none⟩) (Nat.le_refl _) _).setCell (p := ⟨w.heap.size, 1, none⟩) (Nat.le_refl _) _).setCell (p := ⟨w.heap.size, 2, none⟩) (Nat.le_refl _) _) ob, v1, rfl, fun hc => ?_, hn⟩
        rw [h1 hc]
        have e0 : p.b0 = w.heap.size := by rw [HP.out]
        have ho := h2.ordr
        rw [e0] at ho
        have hne : ∀ b, (Value.slice a2 R.ord.length c2).ownBlock = some b → b ≠ w.heap.size := fun b hb e => by
          obtain ⟨_, _, cur, hc⟩ := ownsRow_block ho b hb
          rw [e, hr0] at hc
          simp at hc
        refine World.ownsRow.alloc (ownsRow_same ho (fun b hb => ?_)) ob
        rw [Below.heap_setCell _ _ _ _ (hne b hb), Below.heap_setCell _ _ _ _ (hne b hb), Below.heap_setCell _ _ _ _ (hne b hb)])
      cases hc1 : decide (R.code = 1)
      · have hne : R.code ≠ 1 := by simpa using hc1
        have hd1 : ((R.code : Int) == 1) = false := by simp; omega
        have HNE := hideIt hne
        clear hc1 hne
        go_wp2_with (go_at_call 22; refine (HAT.out _ (grown_refl _ _)).mono ?_; rintro e w2 hat; obtain ⟨rfl, hat⟩ := hat; obtain ⟨a2, c2, h2, hr0, m4, m5, hln, hbw⟩ := HK.out w2 hat; have H2 := hideIt h2; have hr0l := lt_of_heap hr0; have rc0 : w2.cell? ⟨w.heap.size, 0, none⟩ = some (.int .i64 0) := cell_of_row w2 _ _ _ 37 (0, 0) hr0; have rc1 : w2.cell? ⟨w.heap.size, 1, none⟩ = some (.slice none 0 0) := cell_of_row w2 _ _ _ 37 (0, 0) hr0; have rc2 : w2.cell? ⟨w.heap.size, 2, none⟩ = some (.int .i64 0) := cell_of_row w2 _ _ _ 37 (0, 0) hr0; have rf : ∀ i, w2.frozen? ⟨w.heap.size, i, none⟩ = false := fun i => frozen_of_row w2 _ _ _ 37 hr0; have HR0 := hideIt hr0; have HBW := hideIt hbw; have hBl : w.heap.size + 1 + 1 < w2.heap.size := World.block_lt_of_cell? w2 _ m4; clear hat h2 hbw hr0)
        obtain ⟨x0, x1, x2, x3⟩ := HFIN.out w2 a2 c2 (.slice none 0 0) (.cells #[.int .i64 (R.code : Int), .slice none 0 0, .int .i64 (R.ent.length : Int)] 37) H2.out HR0.out HBW.out (fun e => absurd e HNE.out) (fun _ => rfl)
        exact bodyPost_ret (v := .agg #[.int .i64 (R.code : Int), .slice none 0 0, .int .i64 (R.ent.length : Int)]) (by simp [results, Tryz.results12, go_sem, x1, x2, x3]) rfl x0
      · have he1 : R.code = 1 := by simpa using hc1
        have hd1 : ((R.code : Int) == 1) = true := by rw [he1]; rfl
        have HE1 := hideIt he1
        clear hc1 he1
        go_wp2_with (go_at_call 22; refine (HAT.out _ (grown_refl _ _)).mono ?_; rintro e w2 hat; obtain ⟨rfl, hat⟩ := hat; obtain ⟨a2, c2, h2, hr0, m4, m5, hln, hbw⟩ := HK.out w2 hat; have H2 := hideIt h2; have hr0l := lt_of_heap hr0; have rc0 : w2.cell? ⟨w.heap.size, 0, none⟩ = some (.int .i64 0) := cell_of_row w2 _ _ _ 37 (0, 0) hr0; have rc1 : w2.cell? ⟨w.heap.size, 1, none⟩ = some (.slice none 0 0) := cell_of_row w2 _ _ _ 37 (0, 0) hr0; have rc2 : w2.cell? ⟨w.heap.size, 2, none⟩ = some (.int .i64 0) := cell_of_row w2 _ _ _ 37 (0, 0) hr0; have rf : ∀ i, w2.frozen? ⟨w.heap.size, i, none⟩ = false := fun i => frozen_of_row w2 _ _ _ 37 hr0; have HR0 := hideIt hr0; have HBW := hideIt hbw; have hBl : w.heap.size + 1 + 1 < w2.heap.size := World.block_lt_of_cell? w2 _ m4; clear hat h2 hbw hr0)
        obtain ⟨x0, x1, x2, x3⟩ := HFIN.out w2 a2 c2 (.slice a2 R.ord.length c2) (.cells #[.int .i64 (R.code : Int), .slice a2 R.ord.length c2, .int .i64 (R.ent.length : Int)] 37) H2.out HR0.out HBW.out (fun _ => rfl) (fun e => absurd HE1.out e)
        exact bodyPost_ret (v := .agg #[.int .i64 (R.code : Int), .slice a2 R.ord.length c2, .int .i64 (R.ent.length : Int)]) (by simp [results, Tryz.results12, go_sem, x1, x2, x3]) rfl x0
end Go.Proofs.YtkbjaneekblgmaaGreatDoor
