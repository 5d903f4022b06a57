/-
  The document's Run: walked.
-/
import Derived.Test.YtndogemgjjgbgaaDoorRunB
import Derived.Deep.RegionHeld3
namespace Go.Proofs.YtndogemgjjgbgaaDoor
open Go.RowKit

/-- The states of the keys in an array: each in a block behind it. -/
structure ArrAt (w : World) (A : Nat) (S : Int → List Int) : Prop where
  cell : ∀ q : Nat, q < 8 → ∃ v, w.cell? ⟨A, q, none⟩ = some v ∧ RowAt w (A + 1) v (S q)
  fz : ∀ q, w.frozen? ⟨A, q, none⟩ = false
  lt : A < w.heap.size

theorem ArrAt.kept {w w' : World} {A : Nat} {S : Int → List Int} (h : ArrAt w A S) (hg : w.grownBy w' none) : ArrAt w' A S :=
  ⟨fun q hq => by obtain ⟨v, hv, hr⟩ := h.cell q hq; exact ⟨v, hg.cell hv (by simp), hr.new hg⟩, fun q => (World.frozen?_of_block (a := ⟨A, q, none⟩) (hg.block A h.lt (by simp))).trans (h.fz q), Nat.lt_of_lt_of_le h.lt hg.size⟩
theorem ArrAt.below {w w' : World} {A : Nat} {S : Int → List Int} (h : ArrAt w A S) (hb : Below w.heap.size w w') : ArrAt w' A S :=
  h.kept ⟨hb.os, hb.tape, hb.output, hb.size, fun k hk _ => hb.block k hk⟩
theorem ArrAt.congr {w : World} {A : Nat} {S S' : Int → List Int} (h : ArrAt w A S) (he : ∀ q : Nat, q < 8 → S' q = S q) : ArrAt w A S' :=
  ⟨fun q hq => by rw [he q hq]; exact h.cell q hq, h.fz, h.lt⟩
theorem ArrAt.set {w : World} {A : Nat} {S : Int → List Int} (h : ArrAt w A S) {q : Nat} (hq : q < 8) {v : Value} {st : List Int} (hr : RowAt w (A + 1) v st) : ArrAt (w.setCell ⟨A, q, none⟩ v) A (setK S q st) := by
  have hg := grown_setCell w ⟨A, q, none⟩ v
  have hrow : ∀ {u : Value} {l : List Int}, RowAt w (A + 1) u l → RowAt (w.setCell ⟨A, q, none⟩ v) (A + 1) u l := fun hu => hu.kept hg (.inr fun e => by have := (hu.lt A e).1; omega)
  refine ⟨fun p hp => ?_, fun p => (World.frozen?_setCell ..).trans (h.fz p), Nat.lt_of_lt_of_le h.lt hg.size⟩
  by_cases e : p = q
  · subst e
    obtain ⟨u, hu, _⟩ := h.cell p hp
    exact ⟨v, World.cell?_setCell_same _ _ _ hu, by rw [setK_same]; exact hrow hr⟩
  · obtain ⟨u, hu, hur⟩ := h.cell p hp
    exact ⟨u, (World.cell?_setCell_other _ _ _ _ (by intro h; simp at h <;> exact e h.symm)).trans hu, by rw [setK_other _ _ _ _ (by omega)]; exact hrow hur⟩

theorem arr_made (w : World) : ArrAt (w.alloc (.cells #[.slice none 0 0, .slice none 0 0, .slice none 0 0, .slice none 0 0, .slice none 0 0, .slice none 0 0, .slice none 0 0, .slice none 0 0] 69)) w.heap.size (fun _ => []) := by
  refine ⟨fun q hq => ⟨.slice none 0 0, ?_, rowAt_nil _ _⟩, fun q => ?_, by simp⟩
  · rw [cell_of_row _ _ _ _ _ _ (heap_alloc_new w _)]
    match q, hq with
    | 0, _ | 1, _ | 2, _ | 3, _ | 4, _ | 5, _ | 6, _ | 7, _ => rfl
  · exact frozen_of_row _ _ _ _ _ (heap_alloc_new w _)

set_option maxRecDepth 100000 in
set_option maxHeartbeats 4000000 in
theorem refRun_any (o : Int) (ops : List Opn) (ord : List Int) (u v : Value) (w : World) (hu : HasOps w u ops) (hv : HasInts w v ord) (hlen : ord.length ≤ 60)
    (hkey : ∀ op ∈ ops, 0 ≤ op.k ∧ op.k < 8) :
    Calls Tryd.prog 24 #[.int .i64 o, u, v] w fun e w' => ∃ z, e = .returned (.int .i64 z) ∧ RunTold o ops ord z ∧ Below w.heap.size w w' := by
  obtain ⟨a, cap, rfl, hm, hops⟩ := hu
  obtain ⟨a', cap', rfl, _, _, _, hord⟩ := hv
  unfold maxLen at hm
  have HOP : Hid (∀ n, (hn : n < ops.length) → ∃ b off, a = some ⟨b, off, none⟩ ∧ ∀ wr, Below w.heap.size w wr → OpAt wr b (off + n * 8) ops[n]) := fun n hn => by
    obtain h | ⟨b, off, e, hc⟩ := hops
    · subst h; simp at hn
    · exact ⟨b, off, e, fun wr hW => (hc n hn).bel hW (hc n hn).lt⟩
  have HOR : Hid (∀ n, (hn : n < ord.length) → ∃ g off, a' = some ⟨g, off, none⟩ ∧ ∀ wr, Below w.heap.size w wr → wr.cell? ⟨g, off + n, none⟩ = some (.int .i64 ord[n])) := fun n hn => by
    obtain h | ⟨g, off, e, hc⟩ := hord
    · subst h; simp at hn
    · exact ⟨g, off, e, fun wr hW => (hW.cell (World.block_lt_of_cell? w _ (hc n hn))).trans (hc n hn)⟩
  have HKEY := hideIt hkey
  have HM := hideIt (arr_made w)
  have HB0 := hideIt (below_grown (World.grownBy_alloc w (.cells #[.slice none 0 0, .slice none 0 0, .slice none 0 0, .slice none 0 0, .slice none 0 0, .slice none 0 0, .slice none 0 0, .slice none 0 0] 69) none))
  clear hops hord hkey
  go_enter Tryd.func24, Tryd.ntmps24
  go_wp2
  go_loopw [15] (fun i wr => ∃ k : Nat, k ≤ 8 ∧ i = .int .i64 k ∧ ArrAt wr w.heap.size (fun q => if q < k then startL o else []) ∧ Below w.heap.size w wr) (fun i _ => 8 - (intOf i).toNat)
  case atStart => exact ⟨0, by omega, rfl, HM.out.congr (fun q _ => by simp; omega), HB0.out⟩
  case round =>
    obtain ⟨k, hk, rfl, harr, hb⟩ := hrel
    have HA := hideIt harr
    have HB := hideIt hb
    clear harr hb
    by_cases hkl : k < 8
    · have k1 : (0 : Int) ≤ (k : Int) := by omega
      have k2 : (k : Int) < 8 := by omega
      have hwr : IntKind.i64.wrap ((k : Int) + 1) = (k : Int) + 1 := by rw [IntKind.wrap_i64]; omega
      have hsc := refStart_any o wr
      obtain ⟨V2, hV2⟩ : ∃ V2, V2 = startV wr o := ⟨_, rfl⟩
      obtain ⟨W2, hW2⟩ : ∃ W2, W2 = startW wr o := ⟨_, rfl⟩
      rw [← hV2, ← hW2] at hsc
      have hg2 : wr.grownBy W2 none := by rw [hW2]; exact startGrown wr o
      have hr2 : RowAt W2 wr.heap.size V2 (startL o) := by rw [hW2, hV2]; exact startAt wr o
      have ha2 := HA.out.kept hg2
      have HC := hideIt hsc
      have HA3 := hideIt (ha2.set hkl (hr2.base HA.out.lt))
      have HB3 := hideIt ((HB.out.grown hg2 HB.out.size (fun k hk => by cases hk)).setCell (p := ⟨w.heap.size, k, none⟩) (Nat.le_refl _) V2)
      obtain ⟨u0, hu0, _⟩ := ha2.cell k hkl
      have hfz := ha2.fz k
      clear hV2 hW2 hg2 ha2 hsc
      obtain ⟨A2, c2, rfl, _⟩ := hr2.has
      clear hr2
      go_wp2_with (go_at_call 38; refine HC.out.mono ?_; rintro e w1 ⟨rfl, hw1⟩; have hw1 := hw1.symm; subst hw1)
      go_roundw
      case rel =>
        refine ⟨k + 1, by omega, by go_num, HA3.out.congr (fun q _ => ?_), HB3.out⟩
        by_cases e : q = k
        · subst e; rw [setK_same, if_pos (by omega)]
        · rw [setK_other _ _ _ _ (by omega)]
          by_cases h : q < k
          · rw [if_pos (by omega), if_pos (by omega)]
          · rw [if_neg (by omega), if_neg (by omega)]
      case measure => simp [intOf]; omega
    · have HA0 := hideIt (HA.out.congr (S' := sAt o ops ord 0) (fun q hq => by rw [if_pos (by omega)]; rfl))
      obtain ⟨wa, hwa⟩ : ∃ wa, wa = wr := ⟨_, rfl⟩
      subst hwa
      go_wp2
      go_loopw [25] (fun i wr => ∃ k : Nat, k ≤ ord.length ∧ i = .int .i64 k ∧ (∀ j, j < k → fineAt o ops ord j = true) ∧ ArrAt wr w.heap.size (sAt o ops ord k) ∧ Below w.heap.size w wr) (fun i _ => ord.length - (intOf i).toNat)
      case atStart => exact ⟨0, by omega, rfl, fun j hj => by omega, HA0.out, HB.out⟩
      case round =>
        obtain ⟨k, hk, rfl, hf, ha, hb⟩ := hrel
        have HF := hideIt hf
        have HA := hideIt ha
        have HB := hideIt hb
        clear hf ha hb
        by_cases hkl : k < ord.length
        · obtain ⟨g, off, rfl, hc⟩ := HOR.out k hkl
          have hc := hc _ HB.out
          have k1 : (0 : Int) ≤ (k : Int) := by omega
          have k2 : (k : Int) < (ord.length : Int) := by omega
          have hwr : IntKind.i64.wrap ((k : Int) + 1) = (k : Int) + 1 := by rw [IntKind.wrap_i64]; omega
          obtain ⟨n, hn⟩ : ∃ n, ord[k] = n := ⟨_, rfl⟩
          rw [hn] at hc
          have HN : Hid ((ord[k]?) = some n) := by rw [← hn]; exact List.getElem?_eq_getElem hkl
          clear hn
          by_cases h1 : n < 0
          · have HE : Hid (RunTold o ops ord k) := .inl ⟨k, hkl, HF.out, fineAt_none (by rw [HN.out]; exact opOf_neg h1), rfl⟩
            go_wp2
            go_ret
            exact ⟨_, rfl, HE.out, HB.out⟩
          · by_cases h2 : (ops.length : Int) ≤ n
            · have HE : Hid (RunTold o ops ord k) := .inl ⟨k, hkl, HF.out, fineAt_none (by rw [HN.out]; exact opOf_beyond h2), rfl⟩
              go_wp2
              go_ret
              exact ⟨_, rfl, HE.out, HB.out⟩
            · obtain ⟨m, rfl⟩ : ∃ m : Nat, n = m := ⟨n.toNat, by omega⟩
              have hml : m < ops.length := by omega
              obtain ⟨b, offo, rfl, hop⟩ := HOP.out m hml
              obtain ⟨d0, d1, d2, d3, d4, d5, d6, d7⟩ := hop _ HB.out
              obtain ⟨op, hop⟩ : ∃ op, ops[m] = op := ⟨_, rfl⟩
              rw [hop] at d0 d1 d2 d3 d4 d5 d6 d7
              have HBI : Hid ((ord[k]?).bind (opOf ops) = some op) := by rw [HN.out, ← hop]; exact opOf_at hml
              have hkk := HKEY.out op (by rw [← hop]; exact List.getElem_mem hml)
              clear hop
              have k3 : (0 : Int) ≤ (m : Int) := by omega
              have k4 : (m : Int) < (ops.length : Int) := by omega
              have k5 : decide ((m : Int) < 0) = false := by simp
              have k6 : decide ((ops.length : Int) ≤ (m : Int)) = false := by simp; omega
              clear h1 h2
              have hg1 := World.grownBy_alloc wr op.obj none
              have ha1 := HA.out.kept hg1
              have hbox := opAt_obj wr op
              have hkq : ((op.k.toNat : Nat) : Int) = op.k := by omega
              obtain ⟨v, hv, hrow⟩ := ha1.cell op.k.toNat (by omega)
              rw [hkq] at hrow
              have hfz := ha1.fz op.k.toNat
              have HC := hideIt (refStep_any o op.d op.a op.b (sAt o ops ord k op.k) v (wr.alloc op.obj).drew ((hrow.new (grown_drew _ _)).has) (fun e => by subst e; exact sAt_rises ops ord k op.k) (by have := sAt_len o ops ord k op.k; omega))
              have HG1 := hideIt (Below.drew (HB.out.grown hg1 HB.out.size (fun k hk => by cases hk)))
              have HA1 := hideIt ha1
              have HX : Hid (OpAt (wr.alloc op.obj).drew wr.heap.size 0 op) := hbox
              obtain ⟨b0, b1, b2, b3, b4, b5, b6, b7⟩ := hbox
              have HV : Hid ((wr.alloc op.obj).drew.cell? ⟨w.heap.size, op.k.toNat, none⟩ = some v) := hv
              have e1 : 0 ≤ op.k := hkk.1
              have e2 : op.k < 8 := hkk.2
              unfold Opn.obj at HC hv hfz b0 b1 b2 b3 b4 b5 b6 b7
              clear hg1 ha1 hrow hkk
              cases hst : stepM o (sAt o ops ord k op.k) op.d op.a op.b with
              | none =>
                have HE : Hid (RunTold o ops ord k) := .inl ⟨k, hkl, HF.out, by rw [fineAt_some HBI.out]; exact opFine_none hst, rfl⟩
                rw [hst] at HC
                clear hst
                go_wp2_with fail
                go_region_held3 (fun w' => w'.cell? ⟨wr.heap.size, 0, none⟩ = some (.int .i64 op.p) ∧ w'.cell? ⟨wr.heap.size, 1, none⟩ = some (.int .i64 op.k) ∧ w'.cell? ⟨wr.heap.size, 2, none⟩ = some (.int .i64 op.d) ∧ w'.cell? ⟨wr.heap.size, 3, none⟩ = some (.int .i64 op.a) ∧ w'.cell? ⟨wr.heap.size, 4, none⟩ = some (.int .i64 op.b) ∧ w'.cell? ⟨wr.heap.size, 5, none⟩ = some (.int .i64 op.r) ∧ w'.cell? ⟨wr.heap.size, 6, none⟩ = some (.int .i64 op.c) ∧ w'.cell? ⟨wr.heap.size, 7, none⟩ = some (.int .i64 op.e) ∧ w'.cell? ⟨w.heap.size, op.k.toNat, none⟩ = some v) (go_keep)
                  (first | (go_at_call 39; refine HC.out.mono ?_; rintro e w2 ⟨hb2, rfl⟩; have HB2 := hideIt hb2; obtain ⟨p0, p1, p2, p3, p4, p5, p6, p7⟩ := HX.out.bel (n := ((wr.alloc op.obj).drew).heap.size) (w' := w2) hb2 HX.out.lt; have pv := (hb2.cell (p := ⟨w.heap.size, op.k.toNat, none⟩) (World.block_lt_of_cell? _ _ HV.out)).trans HV.out; clear hb2))
                go_wp2
                go_ret
                exact ⟨_, rfl, HE.out, HG1.out.trans (HB2.out.mono (Nat.le_trans HG1.out.size (Nat.le_refl _)))⟩
              | some p =>
                obtain ⟨st', z⟩ := p
                have HFI := hideIt (opFine_some hst)
                have HAF := hideIt (after_some hst)
                rw [hst] at HC
                clear hst
                have hst : ∀ (v2 : Value) (w2 : World), Below (wr.alloc op.obj).drew.heap.size (wr.alloc op.obj).drew w2 → RowAt w2 (wr.alloc op.obj).drew.heap.size v2 st' →
                    ArrAt (w2.setCell ⟨w.heap.size, op.k.toNat, none⟩ v2) w.heap.size (sAt o ops ord (k + 1)) ∧ Below w.heap.size w (w2.setCell ⟨w.heap.size, op.k.toNat, none⟩ v2) ∧ w2.frozen? ⟨w.heap.size, op.k.toNat, none⟩ = false := fun v2 w2 hb2 hr2 => by
                  have ha2 := (HA1.out.kept (grown_drew _ _)).below hb2
                  refine ⟨?_, ?_, ha2.fz _⟩
                  · rw [sAt_succ HBI.out, HAF.out]
                    have := ha2.set (q := op.k.toNat) (by omega) (hr2.base (base' := w.heap.size + 1) HA1.out.lt)
                    rwa [hkq] at this
                  · exact (HG1.out.trans (hb2.mono (Nat.le_trans HG1.out.size (Nat.le_refl _)))).setCell (Nat.le_refl _) _
                have HST := hideIt hst
                clear hst
                cases he : decide (0 ≤ op.e)
                all_goals cases hz : (z != op.r)
                case false.false =>
                  go_wp2_with fail
                  go_region_held3 (fun w' => w'.cell? ⟨wr.heap.size, 0, none⟩ = some (.int .i64 op.p) ∧ w'.cell? ⟨wr.heap.size, 1, none⟩ = some (.int .i64 op.k) ∧ w'.cell? ⟨wr.heap.size, 2, none⟩ = some (.int .i64 op.d) ∧ w'.cell? ⟨wr.heap.size, 3, none⟩ = some (.int .i64 op.a) ∧ w'.cell? ⟨wr.heap.size, 4, none⟩ = some (.int .i64 op.b) ∧ w'.cell? ⟨wr.heap.size, 5, none⟩ = some (.int .i64 op.r) ∧ w'.cell? ⟨wr.heap.size, 6, none⟩ = some (.int .i64 op.c) ∧ w'.cell? ⟨wr.heap.size, 7, none⟩ = some (.int .i64 op.e) ∧ w'.cell? ⟨w.heap.size, op.k.toNat, none⟩ = some v) (go_keep)
                    (first | (go_at_call 39; refine HC.out.mono ?_; rintro e w2 ⟨hb2, v2, rfl, hr2⟩; obtain ⟨ha3, hb3, hf3⟩ := HST.out v2 w2 hb2 hr2; have HA3 := hideIt ha3; have HB3 := hideIt hb3; have HB2 := hideIt hb2; obtain ⟨p0, p1, p2, p3, p4, p5, p6, p7⟩ := HX.out.bel (n := ((wr.alloc op.obj).drew).heap.size) (w' := w2) hb2 HX.out.lt; have pv := (hb2.cell (p := ⟨w.heap.size, op.k.toNat, none⟩) (World.block_lt_of_cell? _ _ HV.out)).trans HV.out; obtain ⟨A2, c2, rfl, _⟩ := hr2.has; clear hb2 hr2 ha3 hb3))
                  go_wp2
                  go_roundw
                  case rel =>
                    refine ⟨k + 1, by omega, by go_num, fun j hj => ?_, HA3.out, HB3.out⟩
                    by_cases e : j < k
                    · exact HF.out j e
                    · obtain rfl : j = k := by omega
                      rw [fineAt_some HBI.out, HFI.out]
                      have : op.e < 0 ∨ op.r = z := by
                        simp at he hz; omega
                      rcases this with h | h <;> simp [h]
                  case measure => simp [intOf]; omega
                case false.true =>
                  go_wp2_with fail
                  go_region_held3 (fun w' => w'.cell? ⟨wr.heap.size, 0, none⟩ = some (.int .i64 op.p) ∧ w'.cell? ⟨wr.heap.size, 1, none⟩ = some (.int .i64 op.k) ∧ w'.cell? ⟨wr.heap.size, 2, none⟩ = some (.int .i64 op.d) ∧ w'.cell? ⟨wr.heap.size, 3, none⟩ = some (.int .i64 op.a) ∧ w'.cell? ⟨wr.heap.size, 4, none⟩ = some (.int .i64 op.b) ∧ w'.cell? ⟨wr.heap.size, 5, none⟩ = some (.int .i64 op.r) ∧ w'.cell? ⟨wr.heap.size, 6, none⟩ = some (.int .i64 op.c) ∧ w'.cell? ⟨wr.heap.size, 7, none⟩ = some (.int .i64 op.e) ∧ w'.cell? ⟨w.heap.size, op.k.toNat, none⟩ = some v) (go_keep)
                    (first | (go_at_call 39; refine HC.out.mono ?_; rintro e w2 ⟨hb2, v2, rfl, hr2⟩; obtain ⟨ha3, hb3, hf3⟩ := HST.out v2 w2 hb2 hr2; have HA3 := hideIt ha3; have HB3 := hideIt hb3; have HB2 := hideIt hb2; obtain ⟨p0, p1, p2, p3, p4, p5, p6, p7⟩ := HX.out.bel (n := ((wr.alloc op.obj).drew).heap.size) (w' := w2) hb2 HX.out.lt; have pv := (hb2.cell (p := ⟨w.heap.size, op.k.toNat, none⟩) (World.block_lt_of_cell? _ _ HV.out)).trans HV.out; obtain ⟨A2, c2, rfl, _⟩ := hr2.has; clear hb2 hr2 ha3 hb3))
                  go_wp2
                  go_roundw
                  case rel =>
                    refine ⟨k + 1, by omega, by go_num, fun j hj => ?_, HA3.out, HB3.out⟩
                    by_cases e : j < k
                    · exact HF.out j e
                    · obtain rfl : j = k := by omega
                      rw [fineAt_some HBI.out, HFI.out]
                      have : op.e < 0 ∨ op.r = z := by
                        simp at he hz; omega
                      rcases this with h | h <;> simp [h]
                  case measure => simp [intOf]; omega
                case true.false =>
                  go_wp2_with fail
                  go_region_held3 (fun w' => w'.cell? ⟨wr.heap.size, 0, none⟩ = some (.int .i64 op.p) ∧ w'.cell? ⟨wr.heap.size, 1, none⟩ = some (.int .i64 op.k) ∧ w'.cell? ⟨wr.heap.size, 2, none⟩ = some (.int .i64 op.d) ∧ w'.cell? ⟨wr.heap.size, 3, none⟩ = some (.int .i64 op.a) ∧ w'.cell? ⟨wr.heap.size, 4, none⟩ = some (.int .i64 op.b) ∧ w'.cell? ⟨wr.heap.size, 5, none⟩ = some (.int .i64 op.r) ∧ w'.cell? ⟨wr.heap.size, 6, none⟩ = some (.int .i64 op.c) ∧ w'.cell? ⟨wr.heap.size, 7, none⟩ = some (.int .i64 op.e) ∧ w'.cell? ⟨w.heap.size, op.k.toNat, none⟩ = some v) (go_keep)
                    (first | (go_at_call 39; refine HC.out.mono ?_; rintro e w2 ⟨hb2, v2, rfl, hr2⟩; obtain ⟨ha3, hb3, hf3⟩ := HST.out v2 w2 hb2 hr2; have HA3 := hideIt ha3; have HB3 := hideIt hb3; have HB2 := hideIt hb2; obtain ⟨p0, p1, p2, p3, p4, p5, p6, p7⟩ := HX.out.bel (n := ((wr.alloc op.obj).drew).heap.size) (w' := w2) hb2 HX.out.lt; have pv := (hb2.cell (p := ⟨w.heap.size, op.k.toNat, none⟩) (World.block_lt_of_cell? _ _ HV.out)).trans HV.out; obtain ⟨A2, c2, rfl, _⟩ := hr2.has; clear hb2 hr2 ha3 hb3))
                  go_wp2
                  go_roundw
                  case rel =>
                    refine ⟨k + 1, by omega, by go_num, fun j hj => ?_, HA3.out, HB3.out⟩
                    by_cases e : j < k
                    · exact HF.out j e
                    · obtain rfl : j = k := by omega
                      rw [fineAt_some HBI.out, HFI.out]
                      have : op.e < 0 ∨ op.r = z := by
                        simp at he hz; omega
                      rcases this with h | h <;> simp [h]
                  case measure => simp [intOf]; omega
                case true.true =>
                  have HE : Hid (RunTold o ops ord k) := .inl ⟨k, hkl, HF.out, by
                    rw [fineAt_some HBI.out, HFI.out]
                    simp at he hz
                    simp; exact ⟨he, fun e => hz e.symm⟩, rfl⟩
                  go_wp2_with fail
                  go_region_held3 (fun w' => w'.cell? ⟨wr.heap.size, 0, none⟩ = some (.int .i64 op.p) ∧ w'.cell? ⟨wr.heap.size, 1, none⟩ = some (.int .i64 op.k) ∧ w'.cell? ⟨wr.heap.size, 2, none⟩ = some (.int .i64 op.d) ∧ w'.cell? ⟨wr.heap.size, 3, none⟩ = some (.int .i64 op.a) ∧ w'.cell? ⟨wr.heap.size, 4, none⟩ = some (.int .i64 op.b) ∧ w'.cell? ⟨wr.heap.size, 5, none⟩ = some (.int .i64 op.r) ∧ w'.cell? ⟨wr.heap.size, 6, none⟩ = some (.int .i64 op.c) ∧ w'.cell? ⟨wr.heap.size, 7, none⟩ = some (.int .i64 op.e) ∧ w'.cell? ⟨w.heap.size, op.k.toNat, none⟩ = some v) (go_keep)
                    (first | (go_at_call 39; refine HC.out.mono ?_; rintro e w2 ⟨hb2, v2, rfl, hr2⟩; obtain ⟨ha3, hb3, hf3⟩ := HST.out v2 w2 hb2 hr2; have HA3 := hideIt ha3; have HB3 := hideIt hb3; have HB2 := hideIt hb2; obtain ⟨p0, p1, p2, p3, p4, p5, p6, p7⟩ := HX.out.bel (n := ((wr.alloc op.obj).drew).heap.size) (w' := w2) hb2 HX.out.lt; have pv := (hb2.cell (p := ⟨w.heap.size, op.k.toNat, none⟩) (World.block_lt_of_cell? _ _ HV.out)).trans HV.out; obtain ⟨A2, c2, rfl, _⟩ := hr2.has; clear hb2 hr2 ha3 hb3))
                  go_wp2
                  go_ret
                  exact ⟨_, rfl, HE.out, HG1.out.trans (HB2.out.mono (Nat.le_trans HG1.out.size (Nat.le_refl _)))⟩
        · have HE : Hid (RunTold o ops ord (-1)) := .inr ⟨fun j hj => HF.out j (by omega), rfl⟩
          go_wp2
          go_ret
          exact ⟨_, rfl, HE.out, HB.out⟩

end Go.Proofs.YtndogemgjjgbgaaDoor
