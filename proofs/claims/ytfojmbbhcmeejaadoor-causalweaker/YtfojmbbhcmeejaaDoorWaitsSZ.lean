/-
  Package linear's allWaits: walked.
  Package linear's verdict: walked.
  Package linear's judge and Check: walked.
  Package linear's Same: walked.
-/
import Derived.Test.YtfojmbbhcmeejaaDoorSameW
import Derived.Test.YtfojmbbhcmeejaaDoorVisitA
import Derived.Deep.RegionHeld3
import Derived.Deep.DeepCutAuto
import Derived.Laws.MakeOwn
import Derived.Test.YtfojmbbhcmeejaaDoorVisitWZ
import Derived.Test.YtfojmbbhcmeejaaDoorLcA
import Derived.Laws.EntriesVeiled
namespace Go.Proofs.YtfojmbbhcmeejaaDoor.Sm
open Go.RowKit

def waitK (ops : List Opn) (ah : Opn → Opn → Bool) (b m : Nat) : List Nat := (List.range m).filter fun a => a != b && ah (opN ops a) (opN ops b)
theorem waitK_yes {ops : List Opn} {ah : Opn → Opn → Bool} {b m : Nat} (h : m ≠ b) (ha : ah (opN ops m) (opN ops b) = true) : waitK ops ah b (m + 1) = waitK ops ah b m ++ [m] := by simp [waitK, List.range_succ, h, ha]
theorem waitK_no {ops : List Opn} {ah : Opn → Opn → Bool} {b m : Nat} (h : m = b ∨ ah (opN ops m) (opN ops b) = false) : waitK ops ah b (m + 1) = waitK ops ah b m := by
  unfold waitK
  rw [List.range_succ, List.filter_append]
  rcases h with rfl | h
  · simp
  · simp [h]
theorem waitK_lt {ops : List Opn} {ah : Opn → Opn → Bool} {b m : Nat} : ∀ n ∈ waitK ops ah b m, n < m := fun _ h => List.mem_range.1 (List.mem_filter.1 h).1
/-- What each row holds, once some are done. -/
def wtL (ops : List Opn) (ah : Opn → Opn → Bool) (b m i : Nat) : List Nat := if i < b then waitL ops ah i else if i = b then waitK ops ah b m else []
def WtAt (ops : List Opn) (ah : Opn → Opn → Bool) (Wb b m : Nat) (wr : World) : Prop :=
  ∃ cur : Array Value, wr.heap[Wb]? = some (.cells cur 94 (0, 0)) ∧ cur.size = ops.length ∧ ∀ i, i < ops.length → cur[i]? = some (.int .u64 (maskN (wtL ops ah b m i)))
theorem WtAt.next {ops : List Opn} {ah : Opn → Opn → Bool} {Wb b : Nat} {wr : World} (h : WtAt ops ah Wb b ops.length wr) : WtAt ops ah Wb (b + 1) 0 wr := by
  obtain ⟨cur, h1, h2, h3⟩ := h
  refine ⟨cur, h1, h2, fun i hi => ?_⟩
  rw [h3 i hi]
  congr 4
  unfold wtL
  by_cases e : i < b
  · simp [e, Nat.lt_succ_of_lt e]
  · by_cases e2 : i = b
    · subst e2; simp [waitL, waitK]
    · have : ¬ i < b + 1 := by omega
      have e3 : waitK ops ah (b + 1) 0 = [] := by simp [waitK]
      simp [e, e2, this, e3]
theorem WtAt.same {ops : List Opn} {ah : Opn → Opn → Bool} {Wb b m : Nat} {wr wr' : World} (h : WtAt ops ah Wb b m wr) (hs : wr'.heap[Wb]? = wr.heap[Wb]?) : WtAt ops ah Wb b m wr' := by
  obtain ⟨cur, h1, h2, h3⟩ := h
  exact ⟨cur, hs.trans h1, h2, h3⟩
theorem WtAt.skip {ops : List Opn} {ah : Opn → Opn → Bool} {Wb b m : Nat} {wr : World} (h : WtAt ops ah Wb b m wr) (hk : waitK ops ah b (m + 1) = waitK ops ah b m) : WtAt ops ah Wb b (m + 1) wr := by
  obtain ⟨cur, h1, h2, h3⟩ := h
  refine ⟨cur, h1, h2, fun i hi => ?_⟩
  rw [h3 i hi]
  unfold wtL
  rw [hk]
theorem WtAt.cell {ops : List Opn} {ah : Opn → Opn → Bool} {Wb b m : Nat} {wr : World} (h : WtAt ops ah Wb b m wr) (hb : b < ops.length) : wr.cell? ⟨Wb, b, none⟩ = some (.int .u64 (maskN (waitK ops ah b m))) ∧ wr.frozen? ⟨Wb, b, none⟩ = false := by
  obtain ⟨cur, h1, h2, h3⟩ := h
  refine ⟨?_, frozen_of_row wr Wb b cur 94 h1⟩
  rw [cell_of_row wr Wb b cur 94 (0, 0) h1, h3 b hb]
  simp [wtL]
theorem WtAt.put {ops : List Opn} {ah : Opn → Opn → Bool} {Wb b m : Nat} {wr : World} (h : WtAt ops ah Wb b m wr) (hb : b < ops.length) (hk : waitK ops ah b (m + 1) = waitK ops ah b m ++ [m]) : WtAt ops ah Wb b (m + 1) (wr.setCell ⟨Wb, b, none⟩ (.int .u64 (maskN (waitK ops ah b m ++ [m])))) := by
  obtain ⟨cur, h1, h2, h3⟩ := h
  refine ⟨cur.setIfInBounds b (.int .u64 (maskN (waitK ops ah b m ++ [m]))), by simp [World.setCell, Array.getElem?_modify, h1], by simpa using h2, fun i hi => ?_⟩
  by_cases e : i = b
  · subst e
    rw [Array.getElem?_setIfInBounds_self_of_lt (by omega)]
    simp [wtL, hk]
  · rw [Array.getElem?_setIfInBounds_ne (Ne.symm e), h3 i hi]
    unfold wtL
    rw [if_neg e, if_neg e]

/-- What allWaits tells. -/
def AwTold (ops : List Opn) (ah : Opn → Opn → Bool) (w : World) (e : Ending) (w' : World) : Prop :=
  ∃ Wb cur, e = .returned (.slice (some ⟨Wb, 0, none⟩) ops.length ops.length) ∧ w.heap.size ≤ Wb ∧ w'.heap[Wb]? = some (.cells cur 94 (0, 0)) ∧ (∀ i, i < ops.length → w'.cell? ⟨Wb, i, none⟩ = some (.int .u64 (maskN (waitL ops ah i)))) ∧ Below w.heap.size w w'

theorem info60 : (Tryd.prog.info? 94).map (fun i => (i.zero, i.size, i.bytes)) = some (some (.int .u64 0), 1, 8) := by kernel_rfl
theorem made_waits (w : World) (n : Nat) (hn : n ≤ 60) : (Instr.makeSlice 93 (.int .i64 (n : Int)) (.int .i64 (n : Int))).run Tryd.prog w = .ok (.slice (some ⟨w.heap.size, 0, none⟩) n n) (w.alloc (.cells (madeCells #[.int .u64 0] n) 94)) := by
  obtain ⟨i, hi, hz, hs, hb⟩ := info_parts info60
  have := run_make (P := Tryd.prog) w 93 94 i (.int .u64 0) Tryd.underlying93 hi hz .i64 .i64 (n : Int) (n : Int) (by omega) (Int.le_refl _) (by rw [hb]; omega) (by omega)
  have e : (Value.int IntKind.u64 0).cells = #[.int .u64 0] := rfl
  rw [e] at this
  simpa [hs] using this
theorem made_at (n i : Nat) (h : i < n) : (madeCells #[.int .u64 0] n)[i]? = some (.int .u64 0) := by
  simp [madeCells, h, Nat.mod_one]
theorem wt_made (ops : List Opn) (ah : Opn → Opn → Bool) (w : World) : WtAt ops ah w.heap.size 0 0 (w.alloc (.cells (madeCells #[.int .u64 0] ops.length) 94)) := by
  refine ⟨_, heap_alloc_new w _, size_madeCells _ _, fun i hi => ?_⟩
  rw [made_at _ _ hi]
  have : wtL ops ah 0 0 i = [] := by
    unfold wtL
    by_cases e : i = 0
    · simp [e, waitK]
    · simp [e]
  rw [this]; rfl

set_option maxRecDepth 100000 in
set_option maxHeartbeats 8000000 in
theorem allWaits_any (ops : List Opn) (u : Value) (B : Nat) (w : World) (hlen : ops.length ≤ 60) (hl : OpsIn w u ops) (b1 : w.cell? ⟨B, 1, none⟩ = some u) (b3 : w.cell? ⟨B, 3, none⟩ = some (.func (.func 36) #[] #[])) :
    Calls Tryd.prog 66 #[.pointer (some ⟨B, 0, none⟩)] w fun e w' => AwTold ops sameB w e w' := by
  have hBl : B < w.heap.size := World.block_lt_of_cell? w _ b1
  obtain ⟨a, cap, rfl, hc, hm, hops⟩ := hl
  unfold maxLen at hm
  have hmk := made_waits w ops.length hlen
  have HOP : Hid (∀ n, (hn : n < ops.length) → ∃ b off, a = some ⟨b, off, none⟩ ∧ ∀ wr, Below w.heap.size w wr → OpAt wr b (off + n * 8) ops[n]) := hideIt (fun n hn => by
    obtain h | ⟨b, off, e, hlt, hc⟩ := hops
    · subst h; simp at hn
    · exact ⟨b, off, e, fun wr hW => (hc n hn).below hlt hW⟩)
  have HB : Hid (∀ wr, Below w.heap.size w wr → wr.cell? ⟨B, 1, none⟩ = some (.slice a ops.length cap) ∧ wr.cell? ⟨B, 3, none⟩ = some (.func (.func 36) #[] #[])) := hideIt (fun wr hW => ⟨(hW.cell (p := ⟨B, 1, none⟩) hBl).trans b1, (hW.cell (p := ⟨B, 3, none⟩) hBl).trans b3⟩)
  have HW0 := hideIt (wt_made ops sameB w)
  have HB0 : Hid (Below w.heap.size w (w.alloc (.cells (madeCells #[.int .u64 0] ops.length) 94))) := hideIt (belA (Below.refl _ _) _)
  obtain ⟨d1, d3⟩ := HB.out _ HB0.out
  clear hops
  go_enter Tryd.func66, Tryd.ntmps66
  go_wp2
  go_loopw [17] (fun i wr => ∃ k : Nat, k ≤ ops.length ∧ i = .int .i64 k ∧ WtAt ops sameB w.heap.size k 0 wr ∧ Below w.heap.size w wr) (fun i _ => ops.length - (intOf i).toNat)
  case atStart => exact ⟨0, by omega, rfl, HW0.out, HB0.out⟩
  case round =>
    obtain ⟨k, hk, rfl, hwt, hb⟩ := hrel
    have HWT := hideIt hwt
    have HBE := hideIt hb
    obtain ⟨e1, e3⟩ := HB.out _ hb
    clear hwt hb d1 d3 b1 b3 hmk
    by_cases hkl : k < ops.length
    · go_wp2
      go_loopw [25] (fun i wy => ∃ m : Nat, m ≤ ops.length ∧ i = .int .i64 m ∧ WtAt ops sameB w.heap.size k m wy ∧ Below w.heap.size w wy) (fun i _ => ops.length - (intOf i).toNat)
      case atStart => exact ⟨0, by omega, rfl, HWT.out, HBE.out⟩
      case round =>
        obtain ⟨m, hm', rfl, hwy, hby⟩ := hrel
        have HWY := hideIt hwy
        have HBY := hideIt hby
        obtain ⟨f1, f3⟩ := HB.out _ hby
        clear hwy hby e1 e3
        by_cases hml : m < ops.length
        · by_cases hmk : m = k
          · have hmk' : ((m : Int) != (k : Int)) = false := by simp [hmk]
            have HK := hideIt (HWY.out.skip (waitK_no (.inl hmk)))
            clear hmk
            go_wp2_with fail
            go_quiet (fail)
            go_wp2
            go_roundw
            case rel => exact ⟨m + 1, by omega, by go_num, HK.out.same rfl, below_drewN HBY.out _⟩
            case measure => simp [intOf]; omega
          · have hmk' : ((m : Int) != (k : Int)) = true := by simp; omega
            obtain ⟨bo, offo, rfl, hop1⟩ := HOP.out m hml
            obtain ⟨bo2, offo2, he2, hop2⟩ := HOP.out k hkl
            obtain ⟨rfl, rfl⟩ : bo = bo2 ∧ offo = offo2 := by simp at he2; exact he2
            clear he2
            obtain ⟨c0, c1, c2, c3, c4, c5, c6, c7⟩ := hop1 _ HBY.out
            obtain ⟨g0, g1, g2, g3, g4, g5, g6, g7⟩ := hop2 _ HBY.out
            have HX : Hid (∀ w2, Below wr.drew.heap.size wr.drew w2 → OpAt w2 bo (offo + m * 8) ops[m] ∧ OpAt w2 bo (offo + k * 8) ops[k] ∧ w2.cell? ⟨B, 1, none⟩ = some (.slice (some ⟨bo, offo, none⟩) ops.length cap) ∧ w2.cell? ⟨B, 3, none⟩ = some (.func (.func 36) #[] #[]) ∧ Below w.heap.size w w2 ∧ WtAt ops sameB w.heap.size k m w2) := hideIt (fun w2 h2 => by
              have hbb := belJ HBY.out.drew h2
              obtain ⟨x1, x3⟩ := HB.out _ hbb
              refine ⟨hop1 w2 hbb, hop2 w2 hbb, x1, x3, hbb, HWY.out.same (h2.block w.heap.size ?_)⟩
              obtain ⟨cur, hh, _⟩ := HWY.out
              exact lt_of_heap hh)
            clear hop1 hop2
            have HE1 := hideIt (opN_at hml)
            have HE2 := hideIt (opN_at hkl)
            have HC := hideIt (fun W => same_any ops[m] ops[k] W)
            unfold Opn.agg at HC
            have i1 : (0 : Int) ≤ (m : Int) := by omega
            have i2 : (m : Int) < (ops.length : Int) := by omega
            have i3 : (0 : Int) ≤ (k : Int) := by omega
            have i4 : (k : Int) < (ops.length : Int) := by omega
            cases hbe : sameB ops[m] ops[k]
            · rw [hbe] at HC
              have HKN := hideIt (waitK_no (ops := ops) (ah := sameB) (b := k) (m := m) (.inr (by rw [HE1.out, HE2.out]; exact hbe)))
              clear hbe
              go_wp2_with fail
              go_region_held3 (fun w' => w'.cell? ⟨B, 1, none⟩ = some (.slice (some ⟨bo, offo, none⟩) ops.length cap) ∧ w'.cell? ⟨B, 3, none⟩ = some (.func (.func 36) #[] #[]) ∧ w'.cell? ⟨bo, offo + m * 8, none⟩ = some (.int .i64 ops[m].p) ∧ w'.cell? ⟨bo, offo + m * 8 + 1, none⟩ = some (.int .i64 ops[m].k) ∧ w'.cell? ⟨bo, offo + m * 8 + 2, none⟩ = some (.int .i64 ops[m].d) ∧ w'.cell? ⟨bo, offo + m * 8 + 3, none⟩ = some (.int .i64 ops[m].a) ∧ w'.cell? ⟨bo, offo + m * 8 + 4, none⟩ = some (.int .i64 ops[m].b) ∧ w'.cell? ⟨bo, offo + m * 8 + 5, none⟩ = some (.int .i64 ops[m].r) ∧ w'.cell? ⟨bo, offo + m * 8 + 6, none⟩ = some (.int .i64 ops[m].c) ∧ w'.cell? ⟨bo, offo + m * 8 + 7, none⟩ = some (.int .i64 ops[m].e) ∧ w'.cell? ⟨bo, offo + k * 8, none⟩ = some (.int .i64 ops[k].p) ∧ w'.cell? ⟨bo, offo + k * 8 + 1, none⟩ = some (.int .i64 ops[k].k) ∧ w'.cell? ⟨bo, offo + k * 8 + 2, none⟩ = some (.int .i64 ops[k].d) ∧ w'.cell? ⟨bo, offo + k * 8 + 3, none⟩ = some (.int .i64 ops[k].a) ∧ w'.cell? ⟨bo, offo + k * 8 + 4, none⟩ = some (.int .i64 ops[k].b) ∧ w'.cell? ⟨bo, offo + k * 8 + 5, none⟩ = some (.int .i64 ops[k].r) ∧ w'.cell? ⟨bo, offo + k * 8 + 6, none⟩ = some (.int .i64 ops[k].c) ∧ w'.cell? ⟨bo, offo + k * 8 + 7, none⟩ = some (.int .i64 ops[k].e)) (go_keep)
                (first | (go_at_call 36; refine (HC.out _).mono ?_; rintro e w2 ⟨rfl, hb2⟩; obtain ⟨⟨p0, p1, p2, p3, p4, p5, p6, p7⟩, ⟨q0, q1, q2, q3, q4, q5, q6, q7⟩, x1, x3, hbb, hww⟩ := HX.out w2 hb2; have HBB := hideIt hbb; have HWW := hideIt hww; clear hb2 hbb hww))
              go_wp2
              go_roundw
              case rel => exact ⟨m + 1, by omega, by go_num, HWW.out.skip HKN.out, HBB.out⟩
              case measure => simp [intOf]; omega
            · rw [hbe] at HC
              have HKY := hideIt (waitK_yes (ops := ops) (ah := sameB) (b := k) (m := m) hmk (by rw [HE1.out, HE2.out]; exact hbe))
              obtain ⟨pw, hp, hcall⟩ := bit_call m (by omega)
              have HCB := hideIt hcall
              have hml2 : maskN (waitK ops sameB k m) < 18446744073709551616 := maskN_lt (fun n hn => by have := waitK_lt n hn; omega)
              have R1 : Hid (bits .or .u64 (maskN (waitK ops sameB k m) : Int) (pw : Int) = (maskN (waitK ops sameB k m ++ [m]) : Int)) := hideIt (by rw [hp, or_bits hml2 (by omega), or_bit])
              clear hbe hp hcall hml2 hmk
              go_wp2_with fail
              go_region_held3 (fun w' => w'.cell? ⟨B, 1, none⟩ = some (.slice (some ⟨bo, offo, none⟩) ops.length cap) ∧ w'.cell? ⟨B, 3, none⟩ = some (.func (.func 36) #[] #[]) ∧ w'.cell? ⟨bo, offo + m * 8, none⟩ = some (.int .i64 ops[m].p) ∧ w'.cell? ⟨bo, offo + m * 8 + 1, none⟩ = some (.int .i64 ops[m].k) ∧ w'.cell? ⟨bo, offo + m * 8 + 2, none⟩ = some (.int .i64 ops[m].d) ∧ w'.cell? ⟨bo, offo + m * 8 + 3, none⟩ = some (.int .i64 ops[m].a) ∧ w'.cell? ⟨bo, offo + m * 8 + 4, none⟩ = some (.int .i64 ops[m].b) ∧ w'.cell? ⟨bo, offo + m * 8 + 5, none⟩ = some (.int .i64 ops[m].r) ∧ w'.cell? ⟨bo, offo + m * 8 + 6, none⟩ = some (.int .i64 ops[m].c) ∧ w'.cell? ⟨bo, offo + m * 8 + 7, none⟩ = some (.int .i64 ops[m].e) ∧ w'.cell? ⟨bo, offo + k * 8, none⟩ = some (.int .i64 ops[k].p) ∧ w'.cell? ⟨bo, offo + k * 8 + 1, none⟩ = some (.int .i64 ops[k].k) ∧ w'.cell? ⟨bo, offo + k * 8 + 2, none⟩ = some (.int .i64 ops[k].d) ∧ w'.cell? ⟨bo, offo + k * 8 + 3, none⟩ = some (.int .i64 ops[k].a) ∧ w'.cell? ⟨bo, offo + k * 8 + 4, none⟩ = some (.int .i64 ops[k].b) ∧ w'.cell? ⟨bo, offo + k * 8 + 5, none⟩ = some (.int .i64 ops[k].r) ∧ w'.cell? ⟨bo, offo + k * 8 + 6, none⟩ = some (.int .i64 ops[k].c) ∧ w'.cell? ⟨bo, offo + k * 8 + 7, none⟩ = some (.int .i64 ops[k].e)) (go_keep)
                (first | (go_at_call 36; refine (HC.out _).mono ?_; rintro e w2 ⟨rfl, hb2⟩; obtain ⟨⟨p0, p1, p2, p3, p4, p5, p6, p7⟩, ⟨q0, q1, q2, q3, q4, q5, q6, q7⟩, x1, x3, hbb, hww⟩ := HX.out w2 hb2; have HBB := hideIt hbb; have HWW := hideIt hww; clear hb2 hbb hww))
              obtain ⟨s1, s2⟩ := HWW.out.cell hkl
              have HFIN : Hid (∀ W3, W3 = (w2.setCell ⟨w.heap.size, k, none⟩ (.int .u64 (bits .or .u64 (maskN (waitK ops sameB k m) : Int) (pw : Int)))).drew → WtAt ops sameB w.heap.size k (m + 1) W3 ∧ Below w.heap.size w W3) := hideIt (fun W3 e => by
                subst e
                rw [R1.out]
                exact ⟨(HWW.out.put hkl HKY.out).same rfl, (HBB.out.setCell (p := ⟨w.heap.size, k, none⟩) (Nat.le_refl _) _).drew⟩)
              clear c0 c1 c2 c3 c4 c5 c6 c7 g0 g1 g2 g3 g4 g5 g6 g7 p0 p1 p2 p3 p4 p5 p6 p7 q0 q1 q2 q3 q4 q5 q6 q7
              go_wp2_with fail
              go_region_with (go_at_call 81; refine (HCB.out _).mono ?_; rintro e w' ⟨rfl, rfl⟩)
              all_goals
                go_wp2
                go_roundw
                case rel => exact ⟨m + 1, by omega, by go_num, (HFIN.out _ rfl).1, (HFIN.out _ rfl).2⟩
                case measure => simp [intOf]; omega
        · have HN : Hid (WtAt ops sameB w.heap.size (k + 1) 0 wr) := hideIt (by
            have : m = ops.length := by omega
            exact (this ▸ HWY.out).next)
          go_wp2
          go_roundw
          case rel => exact ⟨k + 1, by omega, by go_num, HN.out, HBY.out⟩
          case measure => simp [intOf]; omega
    · have HE : Hid (AwTold ops sameB w (.returned (.slice (some ⟨w.heap.size, 0, none⟩) ops.length ops.length)) wr) := hideIt (by
        obtain ⟨cur, h1, h2, h3⟩ := HWT.out
        refine ⟨w.heap.size, cur, rfl, Nat.le_refl _, h1, fun i hi => ?_, HBE.out⟩
        rw [cell_of_row wr _ _ cur 94 (0, 0) h1, h3 i hi]
        have : i < k := by omega
        simp [wtL, this])
      go_wp2
      go_ret
      exact HE.out

end Go.Proofs.YtfojmbbhcmeejaaDoor.Sm

namespace Go.Proofs.YtfojmbbhcmeejaaDoor.Sm
open Go.RowKit

def fnB : Value := .func (.func 36) #[] #[]
/-- What lies in memory as a search begins. -/
structure PreV (o : Int) (ops : List Opn) (bud : Nat) (u : Value) (b0 B M : Nat) (w : World) : Prop where
  blk : w.heap[B]? = some (.cells (blkG o u bud fnB nilS 0 M 0 (fun _ => nilS) nilS nilS) 100 (0, 0))
  set : SetS w M []
  ops : OpsIn w u ops
  opsb : ∀ a n c, u = .slice (some a) n c → 0 < n → a.block < b0
  known : KnownAt w
  b0pos : 0 < b0
  b0B : b0 ≤ B
  b0M : b0 ≤ M

def OneT (B k : Nat) : Prop := k = B
theorem tch_belowB {b0 B : Nat} {w w' : World} (h : Tch (OneT B) w w') (hB : b0 ≤ B) (hs : B < w.heap.size) : Below b0 w w' :=
  ⟨h.os, h.tape, h.output, h.size, fun k hk => h.same k (by omega) (fun e => by unfold OneT at e; omega)⟩

/-- Behind the set-up of what must be ahead. -/
structure MidV (o : Int) (ops : List Opn) (bud : Nat) (u : Value) (b0 B M : Nat) (w : World) (wv : Value) (vs : Nat → Value) (k : Nat) (wx : World) : Prop where
  blk : wx.heap[B]? = some (.cells (blkG o u bud fnB wv (maskN (endL ops)) M 0 vs nilS nilS) 100 (0, 0))
  tch : Tch (OneT B) w wx
  waits : ∃ Wb cur, wv = .slice (some ⟨Wb, 0, none⟩) ops.length ops.length ∧ b0 ≤ Wb ∧ Wb ≠ B ∧ wx.heap[Wb]? = some (.cells cur 94 (0, 0)) ∧ ∀ i, i < ops.length → wx.cell? ⟨Wb, i, none⟩ = some (.int .u64 (maskN (waitL ops sameB i)))
  rows : ∀ j, j < k → RowAt wx b0 (vs j) (startL o)

theorem opsIn_below {w w' : World} {u : Value} {ops : List Opn} {b0 : Nat} (h : OpsIn w u ops) (hb : ∀ a n c, u = .slice (some a) n c → 0 < n → a.block < b0) (hw : Below b0 w w') : OpsIn w' u ops := by
  obtain ⟨a, cap, e, hc, hm, ho⟩ := h
  refine ⟨a, cap, e, hc, hm, ?_⟩
  rcases ho with ho | ⟨b, off, rfl, hlt, ho⟩
  · exact .inl ho
  · by_cases h0 : ops = []
    · exact .inl h0
    · have hb0 : b < b0 := hb ⟨b, off, none⟩ _ _ e (List.length_pos_iff.2 h0)
      exact .inr ⟨b, off, rfl, Nat.lt_of_lt_of_le hlt hw.size, ho.below hb0 hw⟩

theorem MidV.search {o : Int} {ops : List Opn} {bud : Nat} {u : Value} {b0 B M : Nat} {w wx : World} {wv : Value} {vs : Nat → Value} (h : MidV o ops bud u b0 B M w wv vs 8 wx) (hp : PreV o ops bud u b0 B M w) :
    SearchAt ⟨o, ops, sameB, bud, u, fnB, wv, b0, B, M⟩ wx [] (fun _ => startL o) vs nilS nilS [] := by
  have hbel := tch_belowB h.tch hp.b0B (lt_of_heap hp.blk)
  obtain ⟨Wb, cur, e1, e2, _, e3, e4⟩ := h.waits
  refine ⟨h.blk, fun k hk => h.rows k hk, fun k _ b _ e => (by cases e), World.ownsRow_nil _ _ _ _, ⟨0, [], World.ownsRow_nil _ _ _ _⟩, ?_, ⟨Wb, cur, e1, e2, e3, e4⟩, opsIn_below hp.ops hp.opsb hbel, hp.opsb, hp.known.below hp.b0pos hbel, hp.b0pos, hp.b0B, hp.b0M⟩
  obtain ⟨es, clock, hm⟩ := hp.set.isMap
  refine hp.set.same (h.tch.same M (lt_of_heap hm) (fun e => ?_))
  rw [show M = B from e, hp.blk] at hm
  cases hm

def z33 : Obj := .cells #[.int .i64 0, .slice none 0 0, .int .i64 0] 43 (0, 0)
theorem mid_mk {o : Int} {ops : List Opn} {bud : Nat} {u : Value} {b0 B M : Nat} {w W1 w2 w3 : World} {Wb : Nat} {cur : Array Value} (hp : PreV o ops bud u b0 B M w) (hg1 : w.grownBy W1 none) (hR : W1.heap[w.heap.size]? = some z33) (hg2 : W1.grownBy w2 none) (hWb : W1.heap.size ≤ Wb)
    (hh : w2.heap[Wb]? = some (.cells cur 94 (0, 0))) (hcl : ∀ i, i < ops.length → w2.cell? ⟨Wb, i, none⟩ = some (.int .u64 (maskN (waitL ops sameB i)))) (hg3 : w2.grownBy w3 none) :
    (∃ wv, MidV o ops bud u b0 B M w wv (fun _ => nilS) 0 ((w3.setCell ⟨B, 4, none⟩ (.slice (some ⟨Wb, 0, none⟩) ops.length ops.length)).setCell ⟨B, 5, none⟩ (.int .u64 (maskN (endL ops))))) ∧
      ((w3.setCell ⟨B, 4, none⟩ (.slice (some ⟨Wb, 0, none⟩) ops.length ops.length)).setCell ⟨B, 5, none⟩ (.int .u64 (maskN (endL ops)))).heap[w.heap.size]? = some z33 := by
  have hBl : B < w.heap.size := lt_of_heap hp.blk
  have hg := (hg1.trans hg2).trans hg3
  have hB3 : w3.heap[B]? = some (.cells (blkG o u bud fnB nilS 0 M 0 (fun _ => nilS) nilS nilS) 100 (0, 0)) := (hg.block B hBl (by simp)).trans hp.blk
  have hs1 := hg1.size
  have hne : Wb ≠ B := by omega
  have hset : ∀ k, k ≠ B → ((w3.setCell ⟨B, 4, none⟩ (.slice (some ⟨Wb, 0, none⟩) ops.length ops.length)).setCell ⟨B, 5, none⟩ (.int .u64 (maskN (endL ops)))).heap[k]? = w3.heap[k]? := fun k hk =>
    (Below.heap_setCell _ _ _ _ hk).trans (Below.heap_setCell _ _ _ _ hk)
  have hW3 : w3.heap[Wb]? = w2.heap[Wb]? := hg3.block Wb (lt_of_heap hh) (by simp)
  refine ⟨⟨.slice (some ⟨Wb, 0, none⟩) ops.length ops.length, ⟨(bg_set (bg_set hB3 4 _) 5 _).trans rfl, (tch_grown hg (fun k e => by cases e)).trans ((tch_set (T := OneT B) (a := ⟨B, 4, none⟩) _ rfl).trans (tch_set (T := OneT B) (a := ⟨B, 5, none⟩) _ rfl)),
    ⟨Wb, cur, rfl, by have := hp.b0B; omega, hne, (hset Wb hne).trans (hW3.trans hh), fun i hi => ?_⟩, fun j hj => by omega⟩⟩, ?_⟩
  · exact (World.cell?_of_block (a := ⟨Wb, i, none⟩) ((hset Wb hne).trans hW3)).trans (hcl i hi)
  · rw [hset _ (by omega), hg3.block _ (by have := lt_of_heap hR; have := hg2.size; omega) (by simp), hg2.block _ (lt_of_heap hR) (by simp)]
    exact hR

/-- One key more. -/
theorem MidV.key {o : Int} {ops : List Opn} {bud : Nat} {u : Value} {b0 B M : Nat} {w wr w2 : World} {wv : Value} {vs : Nat → Value} {k : Nat} {a : Option Addr} {l c : Nat} (h : MidV o ops bud u b0 B M w wv vs k wr) (hp : PreV o ops bud u b0 B M w) (hk : k < 8)
    (hg : wr.grownBy w2 none) (hrow : RowAt w2 wr.heap.size (.slice a l c) (startL o)) : MidV o ops bud u b0 B M w wv (setV vs k (.slice a l c)) (k + 1) (w2.setCell ⟨B, 8 + k, none⟩ (.slice a l c)) := by
  have hBw : B < wr.heap.size := lt_of_heap h.blk
  have hB2 := (hg.block B hBw (by simp)).trans h.blk
  have hset : ∀ j, j ≠ B → (w2.setCell ⟨B, 8 + k, none⟩ (.slice a l c)).heap[j]? = w2.heap[j]? := fun j hj => Below.heap_setCell _ _ _ _ hj
  obtain ⟨Wb, cur, e1, e2, e3, e4, e5⟩ := h.waits
  have eW := hg.block Wb (lt_of_heap e4) (by simp)
  refine ⟨(bg_set hB2 (8 + k) _).trans (by rw [blkG_key _ _ _ _ _ _ _ _ _ _ _ _ hk]), h.tch.trans ((tch_grown hg (fun k e => by cases e)).trans (tch_set (T := OneT B) (a := ⟨B, 8 + k, none⟩) _ rfl)),
    ⟨Wb, cur, e1, e2, e3, (hset Wb e3).trans (eW.trans e4), fun i hi => (World.cell?_of_block (a := ⟨Wb, i, none⟩) ((hset Wb e3).trans eW)).trans (e5 i hi)⟩, fun j hj => ?_⟩
  have hneB : ∀ (v : Value) (st : List Int) (base : Nat), RowAt w2 base v st → ∀ b, v.ownBlock = some b → b ≠ B := fun v st base hr b hb e => by
    obtain ⟨_, _, cur, hc⟩ := hr.block b hb
    rw [e, hB2] at hc; simp at hc
  by_cases e : j = k
  · subst e
    have : setV vs j (.slice a l c) j = .slice a l c := by simp [setV]
    rw [this]
    exact (hrow.base (by have := hp.b0B; omega)).same fun b hb => hset b (hneB _ _ _ hrow b hb)
  · have : setV vs k (.slice a l c) j = vs j := by simp [setV, e]
    rw [this]
    have hr := (h.rows j (by omega)).new hg
    exact hr.same fun b hb => hset b (hneB _ _ _ hr b hb)

/-- What stands behind the search itself. -/
structure AftV (b0 B : Nat) (w : World) (r : Res) (ov : Value) (wx : World) : Prop where
  ovc : wx.cell? ⟨B, 16, none⟩ = some ov
  row : wx.ownsRow b0 3 1 ov r.ord.length (ordV r.ord)
  bel : Below b0 w wx
  res : wx.heap[w.heap.size]? = some z33
  blt : B < wx.heap.size

theorem aft_visit {o : Int} {ops : List Opn} {bud : Nat} {u : Value} {b0 B M : Nat} {w wr W w2 : World} {wv : Value} {vs : Nat → Value} {r : Res} {e : Ending} (h : MidV o ops bud u b0 B M w wv vs 8 wr) (hp : PreV o ops bud u b0 B M w) (hR : wr.heap[w.heap.size]? = some z33) (hg : wr.grownBy W none)
    (hv : VTold ⟨o, ops, sameB, bud, u, fnB, wv, b0, B, M⟩ W [] (fun _ => startL o) vs nilS r e w2) :
    e = .returned (.int .i64 (r.code : Int)) ∧ ∃ ov, AftV b0 B w r ov w2 ∧ w2.cell? ⟨B, 6, none⟩ = some (.map (some M)) ∧ SetS w2 M r.ent ∧ (∀ R : Nat, W.heap[R]? = some z33 → w2.heap[R]? = some z33) := by
  obtain ⟨rfl, S', vs', ov, nv, hs, hf, _⟩ := hv
  have h0 := h.search hp
  have hbel0 := tch_belowB h.tch hp.b0B (lt_of_heap hp.blk)
  have hBw : B < W.heap.size := Nat.lt_of_lt_of_le (lt_of_heap h.blk) hg.size
  have hbel : Below b0 w w2 := (hbel0.grown hg (by have := lt_of_heap h.blk; have := hp.b0B; omega) (fun k e => by cases e)).trans (hf.below hp.b0B hp.b0M (fun b e => by cases e) (by have := hp.b0B; show b0 ≤ _; omega))
  have hkeep : ∀ R : Nat, W.heap[R]? = some z33 → w2.heap[R]? = some z33 := fun R hR => by
    refine (hf.same R (lt_of_heap hR) ?_ ?_ (fun e => by cases e) (.inr fun c fz e => by rw [hR] at e; simp [z33] at e)).trans hR
    · intro e
      have := (hg.block B (lt_of_heap h.blk) (by simp)).trans h.blk
      rw [← show R = B from e, hR] at this; simp [z33] at this
    · intro e
      obtain ⟨es, clock, hm⟩ := h0.set.isMap
      have := (hg.block _ (lt_of_heap hm) (by simp)).trans hm
      rw [← e, hR] at this; cases this
  exact ⟨rfl, ov, ⟨blk_cells hs.blk 16, hs.ordr, hbel, hkeep _ ((hg.block _ (lt_of_heap hR) (by simp)).trans hR), lt_of_heap hs.blk⟩, blk_cells hs.blk 6, hs.set, hkeep⟩

theorem AftV.set {b0 B R : Nat} {w w2 : World} {r : Res} {ov : Value} {cs : Array Value} (h : AftV b0 B w r ov w2) (hz : w2.heap[R]? = some (.cells cs 43 (0, 0))) (h1 : R ≠ w.heap.size) (h2 : b0 ≤ R) (h3 : R ≠ B) (i : Nat) (x : Value) :
    AftV b0 B w r ov (w2.setCell ⟨R, i, none⟩ x) ∧ (w2.setCell ⟨R, i, none⟩ x).heap[R]? = some (.cells (cs.setIfInBounds i x) 43 (0, 0)) := by
  have hs : ∀ k, k ≠ R → (w2.setCell ⟨R, i, none⟩ x).heap[k]? = w2.heap[k]? := fun k hk => Below.heap_setCell _ _ _ _ hk
  refine ⟨⟨(World.cell?_of_block (a := ⟨B, 16, none⟩) (hs B (Ne.symm h3))).trans h.ovc, ownsRow_same h.row fun b hb => hs b (fun e => ?_), h.bel.setCell (p := ⟨R, i, none⟩) h2 x, (hs _ (Ne.symm h1)).trans h.res, by have := h.blt; simpa [World.setCell] using this⟩, by simp [World.setCell, Array.getElem?_modify, hz]⟩
  obtain ⟨_, _, cur, hc⟩ := ownsRow_block h.row b hb
  rw [e, hz] at hc; simp at hc
theorem AftV.alloc {b0 B : Nat} {w w2 : World} {r : Res} {ov : Value} (h : AftV b0 B w r ov w2) (hb : b0 ≤ w2.heap.size) (o : Obj) : AftV b0 B w r ov (w2.alloc o) :=
  ⟨(World.cell?_alloc_lt w2 o ⟨B, 16, none⟩ h.blt).trans h.ovc, h.row.alloc o, h.bel.alloc hb o, (Below.heap_alloc w2 o _ (lt_of_heap h.res)).trans h.res, by have := h.blt; simp; omega⟩
/-- The verdict as it lies in memory. -/
def ResV (b0 B : Nat) (w : World) (r : Res) (x : Value) (wx : World) : Prop :=
  ∃ R ov, x = .pointer (some ⟨R, 0, none⟩) ∧ AftV b0 B w r ov wx ∧ wx.heap[R]? = some (.cells #[.int .i64 (r.code : Int), .slice none 0 0, .int .i64 (r.ent.length : Int)] 43 (0, 0)) ∧ R ≠ w.heap.size ∧ b0 ≤ R ∧ R ≠ B
theorem resA {b0 B R : Nat} {w w2 : World} {r : Res} {ov : Value} (h : AftV b0 B w r ov w2) (hz : w2.heap[R]? = some z33) (h1 : R ≠ w.heap.size) (h2 : b0 ≤ R) (h3 : R ≠ B) :
    ResV b0 B w r (.pointer (some ⟨R, 0, none⟩)) (((w2.setCell ⟨R, 0, none⟩ (.int .i64 (r.code : Int))).setCell ⟨R, 1, none⟩ (.slice none 0 0)).setCell ⟨R, 2, none⟩ (.int .i64 (r.ent.length : Int))) := by
  obtain ⟨a1, b1⟩ := h.set hz h1 h2 h3 0 (.int .i64 (r.code : Int))
  obtain ⟨a2, b2⟩ := a1.set b1 h1 h2 h3 1 (.slice none 0 0)
  obtain ⟨a3, b3⟩ := a2.set b2 h1 h2 h3 2 (.int .i64 (r.ent.length : Int))
  exact ⟨R, ov, rfl, a3, b3, h1, h2, h3⟩
theorem resB {b0 B : Nat} {w w2 : World} {r : Res} {ov : Value} (h : AftV b0 B w r ov w2) (hb : b0 ≤ w.heap.size) :
    ResV b0 B w r (.pointer (some ⟨w2.heap.size, 0, none⟩)) (w2.alloc (.cells #[.int .i64 (r.code : Int), .slice none 0 0, .int .i64 (r.ent.length : Int)] 43)) := by
  have h1 := lt_of_heap h.res
  have h2 := h.blt
  exact ⟨w2.heap.size, ov, rfl, h.alloc (by omega) _, heap_alloc_new w2 _, by omega, by omega, by omega⟩

theorem row_off {base : Nat} {w : World} {v : Value} {n : Nat} {xs : List Value} {R : Nat} {cs : Array Value} {t : TypeId} (h : w.ownsRow base 3 1 v n xs) (hz : w.heap[R]? = some (.cells cs t (0, 0))) (ht : t ≠ 3) : v.ownBlock ≠ some R := fun e => by
  obtain ⟨_, _, cur, hc⟩ := ownsRow_block h R e
  rw [hz] at hc; simp at hc; exact ht hc.2
theorem vd_one {b0 B R : Nat} {w wc : World} {r : Res} {ov : Value} (h : AftV b0 B w r ov wc) (hres : ∃ cs, wc.heap[R]? = some (.cells cs 43 (0, 0))) (hb : b0 ≤ w.heap.size) (h2 : b0 ≤ R) (hc : r.code = 1) (x y z : Value) :
    VdTold b0 w r (.returned (.agg #[.int .i64 1, ov, .int .i64 (r.ent.length : Int)])) ((((wc.setCell ⟨R, 1, none⟩ x).setCell ⟨w.heap.size, 0, none⟩ y).setCell ⟨w.heap.size, 1, none⟩ x).setCell ⟨w.heap.size, 2, none⟩ z) := by
  obtain ⟨cs, hres⟩ := hres
  have n1 := row_off h.row hres (by decide)
  have n2 := row_off h.row h.res (by decide)
  refine ⟨ov, by rw [hc]; rfl, (((h.bel.setCell (p := ⟨R, 1, none⟩) h2 _).setCell (p := ⟨w.heap.size, 0, none⟩) hb _).setCell (p := ⟨w.heap.size, 1, none⟩) hb _).setCell (p := ⟨w.heap.size, 2, none⟩) hb _, fun _ => ?_, fun e => absurd hc e⟩
  exact ownsRow_setCell_other (ownsRow_setCell_other (ownsRow_setCell_other (ownsRow_setCell_other h.row n1 _) n2 _) n2 _) n2 _
theorem vd_two {b0 B : Nat} {w wc : World} {r : Res} {ov : Value} (h : AftV b0 B w r ov wc) (hb : b0 ≤ w.heap.size) (hc : r.code ≠ 1) (x y z : Value) :
    VdTold b0 w r (.returned (.agg #[.int .i64 (r.code : Int), .slice none 0 0, .int .i64 (r.ent.length : Int)])) (((wc.setCell ⟨w.heap.size, 0, none⟩ y).setCell ⟨w.heap.size, 1, none⟩ x).setCell ⟨w.heap.size, 2, none⟩ z) :=
  ⟨.slice none 0 0, rfl, ((h.bel.setCell (p := ⟨w.heap.size, 0, none⟩) hb _).setCell (p := ⟨w.heap.size, 1, none⟩) hb _).setCell (p := ⟨w.heap.size, 2, none⟩) hb _, fun e => absurd e hc, fun _ => rfl⟩

set_option maxRecDepth 100000 in
set_option maxHeartbeats 8000000 in
theorem verdict_any (o : Int) (ops : List Opn) (bud : Nat) (u : Value) (b0 B M : Nat) (w : World) (hp : PreV o ops bud u b0 B M w) (hlen : ops.length ≤ 60) (hbud : bud ≤ 1000000)
    (hkeys : ∀ n, n < ops.length → 0 ≤ (opN ops n).k ∧ (opN ops n).k < 8) (hnums : ∀ n, n < ops.length → I64 (opN ops n).a ∧ I64 (opN ops n).b) :
    Calls Tryd.prog 57 #[.pointer (some ⟨B, 0, none⟩)] w fun e w' => VdTold b0 w (searchM ⟨o, ops, sameB, bud, nameB⟩) e w' := by
  have HP := hideIt hp
  have hBl : B < w.heap.size := lt_of_heap hp.blk
  have hbs : b0 ≤ w.heap.size := by have := hp.b0B; omega
  have hg1 : w.grownBy (w.alloc (.cells #[.int .i64 0, .slice none 0 0, .int .i64 0] 43)) none := World.grownBy_alloc _ _ _
  obtain ⟨W1, hW1⟩ : ∃ W1, w.alloc (.cells #[.int .i64 0, .slice none 0 0, .int .i64 0] 43) = W1 := ⟨_, rfl⟩
  have hR : W1.heap[w.heap.size]? = some (.cells #[.int .i64 0, .slice none 0 0, .int .i64 0] 43 (0, 0)) := by rw [← hW1]; exact heap_alloc_new w _
  rw [hW1] at hg1
  have hB1 : W1.heap[B]? = some (.cells (blkG o u bud fnB nilS 0 M 0 (fun _ => nilS) nilS nilS) 100 (0, 0)) := (hg1.block B hBl (by simp)).trans hp.blk
  have b1 : W1.cell? ⟨B, 1, none⟩ = some u := bg_cell hB1 1
  have hO1 : OpsIn W1 u ops := hp.ops.below (below_grown hg1)
  have HAW : Hid (∀ W, W1.grownBy W none → Calls Tryd.prog 66 #[.pointer (some ⟨B, 0, none⟩)] W fun e w' => AwTold ops sameB W e w') := hideIt (fun W hg => by
    have hb := (hg.block B (lt_of_heap hB1) (by simp)).trans hB1
    exact allWaits_any ops u B W hlen (hO1.below (below_grown hg)) (bg_cell hb 1) (bg_cell hb 3))
  have HEN : Hid (∀ W, W1.grownBy W none → Calls Tryd.prog 67 #[u] W fun e w' => e = .returned (.int .u64 (maskN (endL ops))) ∧ Below W.heap.size W w') := hideIt (fun W hg => ended_any ops u W hlen (hO1.below (below_grown hg)))
  go_enter Tryd.func57, Tryd.ntmps57
  go_upto_region 1 with fail
  go_cut [2] (fun x wx => x = .pointer (some ⟨w.heap.size, 0, none⟩) ∧ (∃ wv, MidV o ops bud u b0 B M w wv (fun _ => nilS) 0 wx) ∧ wx.heap[w.heap.size]? = some (.cells #[.int .i64 0, .slice none 0 0, .int .i64 0] 43 (0, 0)))
  case first =>
    go_region_with (first | (go_at_call 66; refine (HAW.out _ (grown_drew _ _)).mono ?_; rintro e w2 ⟨Wb, cur, rfl, hWb, hh, hcl, hb2⟩; have hg2 := grown_of_below hb2; have x1 : w2.cell? ⟨B, 1, none⟩ = some u := hg2.cell b1 (by simp); have HG2 := hideIt ((grown_drew W1 none).trans hg2); have HH := hideIt hh; have HCL := hideIt hcl; have HWB := hideIt hWb; clear hg2 hb2 hh hcl hWb) | (go_at_call 67; refine (HEN.out _ HG2.out).mono ?_; rintro e w3 ⟨rfl, hb3⟩; have hB3 := ((HG2.out.trans (grown_of_below hb3)).block B (lt_of_heap hB1) (by simp)).trans hB1; have y4 : w3.cell? ⟨B, 4, none⟩ = some (.slice none 0 0) := bg_cell hB3 4; have y5 : w3.cell? ⟨B, 5, none⟩ = some (.int .u64 0) := bg_cell hB3 5; have z4 := bg_fz hB3 4; have z5 := bg_fz hB3 5; have HB3 := hideIt hB3; have HG3 := hideIt (grown_of_below hb3); clear hb3 hB3))
    all_goals
      go_wp2_with fail
      go_meet
      have hfin := mid_mk HP.out hg1 hR HG2.out HWB.out HH.out HCL.out HG3.out
      exact ⟨rfl, hfin.1, hfin.2⟩
  case rest =>
    obtain ⟨rfl, ⟨wv, hmid⟩, hR2⟩ := hcut
    have HM := hideIt hmid
    have HR2 := hideIt hR2
    clear hW1 hg1 hR hB1 b1 hO1 HAW HEN hmid hR2
    go_wp2
    go_loopw [18] (fun i wr => ∃ k : Nat, k ≤ 8 ∧ i = .int .i64 k ∧ (∃ vs, MidV o ops bud u b0 B M w wv vs k wr) ∧ wr.heap[w.heap.size]? = some z33) (fun i _ => 8 - (intOf i).toNat)
    case atStart => exact ⟨0, by omega, rfl, ⟨_, HM.out⟩, HR2.out⟩
    case round =>
      obtain ⟨k, hk, rfl, ⟨vs, hmid⟩, hR3⟩ := hrel
      by_cases hk8 : k < 8
      · have d0 : wr.cell? ⟨B, 0, none⟩ = some (.int .i64 o) := bg_cell hmid.blk 0
        obtain ⟨sa, sl, sc, w2, hcall, hrow, hgs⟩ := start_call o wr.drew
        have hgw : wr.grownBy w2 none := (grown_drew wr none).trans hgs
        have hB2 := (hgw.block B (lt_of_heap hmid.blk) (by simp)).trans hmid.blk
        have d8 : w2.frozen? ⟨B, 8 + k, none⟩ = false := bg_fz hB2 _
        have d9 : ∃ x, w2.cell? ⟨B, 8 + k, none⟩ = some x := by
          rw [bg_cell hB2]
          exact ⟨vs k, by
            match k, hk8 with
            | 0, _ => rfl
            | 1, _ => rfl
            | 2, _ => rfl
            | 3, _ => rfl
            | 4, _ => rfl
            | 5, _ => rfl
            | 6, _ => rfl
            | 7, _ => rfl⟩
        obtain ⟨x, d9⟩ := d9
        have HN : Hid ((∃ vs, MidV o ops bud u b0 B M w wv vs (k + 1) (w2.setCell ⟨B, 8 + k, none⟩ (.slice sa sl sc))) ∧ (w2.setCell ⟨B, 8 + k, none⟩ (.slice sa sl sc)).heap[w.heap.size]? = some z33) := hideIt (by
          refine ⟨⟨_, hmid.key HP.out hk8 hgw hrow⟩, ?_⟩
          rw [Below.heap_setCell _ _ _ _ (show w.heap.size ≠ B by omega), hgw.block _ (lt_of_heap hR3) (by simp)]
          exact hR3)
        have HC := hideIt hcall
        have k1 : (0 : Int) ≤ (k : Int) := by omega
        have k2 : (k : Int) < 8 := by omega
        clear hcall hrow hgs hgw hB2 hmid hR3
        go_wp2_with fail
        go_region_with (go_at_call 68; refine HC.out.mono ?_; rintro e w' ⟨rfl, hw'⟩; subst hw')
        all_goals
          go_wp2
          go_roundw
          case rel => exact ⟨k + 1, by omega, by go_num, HN.out.1, HN.out.2⟩
          case measure => simp [intOf]; omega
      · obtain rfl : k = 8 := by omega
        have hok : ParOK ⟨o, ops, sameB, bud, u, fnB, wv, b0, B, M⟩ := ⟨hlen, hkeys, hnums, hbud⟩
        have hvis : ∀ W, wr.grownBy W none → Calls Tryd.prog 69 #[.pointer (some ⟨B, 0, none⟩)] W fun e w' => e = .returned (.int .i64 ((searchM ⟨o, ops, sameB, bud, nameB⟩).code : Int)) ∧ ∃ ov, AftV b0 B w (searchM ⟨o, ops, sameB, bud, nameB⟩) ov w' ∧ w'.cell? ⟨B, 6, none⟩ = some (.map (some M)) ∧ SetS w' M (searchM ⟨o, ops, sameB, bud, nameB⟩).ent ∧ (∀ R : Nat, W.heap[R]? = some z33 → w'.heap[R]? = some z33) := fun W hg =>
          (visit_any ⟨o, ops, sameB, bud, u, fnB, wv, b0, B, M⟩ hok (ops.length + 1) [] (fun _ => startL o) vs nilS nilS [] W ((hmid.search HP.out).grown hg) Reach.start (by simp) (Nat.zero_le _)).mono (fun e w' hv => aft_visit hmid HP.out hR3 hg hv)
        have hmB : B < wr.heap.size := lt_of_heap hmid.blk
        have d6 : wr.cell? ⟨B, 6, none⟩ = some (.map (some M)) := bg_cell hmid.blk 6
        obtain ⟨r, hr⟩ : ∃ r, searchM ⟨o, ops, sameB, bud, nameB⟩ = r := ⟨_, rfl⟩
        rw [hr] at hvis
        have HRR := hideIt hr
        have hlr := lt_of_heap hR3
        clear hr
        have HVB := hideIt (hvis wr.drew (grown_drew _ _))
        have HVA := hideIt (hvis (wr.alloc (.cells #[.int .i64 0, .slice none 0 0, .int .i64 0] 43)).drew ((World.grownBy_alloc _ _ _).trans (grown_drew _ _)))
        have HZA : Hid ((wr.alloc (.cells #[.int .i64 0, .slice none 0 0, .int .i64 0] 43)).drew.heap[wr.heap.size]? = some z33) := hideIt (heap_alloc_new wr _)
        clear hvis hok hmid hR3
        go_wp2_with fail
        go_upto_region 7 with fail
        go_cut [4] (fun x wx => ResV b0 B w r x wx)
        case first =>
          go_region_with (go_at_call 69; first | (refine HVA.out.mono ?_; rintro e w2 ⟨rfl, ov, haf, d7, hset, hkeep⟩; have hz := hkeep _ HZA.out; have y0 : w2.cell? ⟨wr.heap.size, 0, none⟩ = some (.int .i64 0) := cell_of_row w2 _ _ _ 43 (0, 0) hz; have y1 : w2.cell? ⟨wr.heap.size, 1, none⟩ = some (.slice none 0 0) := cell_of_row w2 _ _ _ 43 (0, 0) hz; have y2 : w2.cell? ⟨wr.heap.size, 2, none⟩ = some (.int .i64 0) := cell_of_row w2 _ _ _ 43 (0, 0) hz; have x0 : ∀ i, w2.frozen? ⟨wr.heap.size, i, none⟩ = false := fun i => frozen_of_row w2 _ _ _ 43 hz; have hln := fun ty => hset.len ty; have HAF := hideIt haf; have HZ := hideIt hz; clear haf hset hkeep hz) | (refine HVB.out.mono ?_; rintro e w2 ⟨rfl, ov, haf, d7, hset, hkeep⟩; have hBl2 := haf.blt; have hln := fun ty => hset.len ty; have hln2 := fun ty (o : Obj) => (hset.same (w' := w2.alloc o) (Below.heap_alloc w2 o M (by obtain ⟨es, clock, hm⟩ := hset.isMap; exact lt_of_heap hm))).len ty; have HAF := hideIt haf; clear haf hset hkeep))
          all_goals
            go_wp2_with fail
            go_meet
            first | exact resB HAF.out hbs | exact resA HAF.out HZ.out (by omega) (by omega) (by omega)
        case rest =>
          obtain ⟨R, ov, rfl, haf, hres, h1, h2, h3⟩ := hcut
          have y0 : wc.cell? ⟨R, 0, none⟩ = some (.int .i64 (r.code : Int)) := cell_of_row wc _ _ _ 43 (0, 0) hres
          have y1 : wc.cell? ⟨R, 1, none⟩ = some (.slice none 0 0) := cell_of_row wc _ _ _ 43 (0, 0) hres
          have y2 : wc.cell? ⟨R, 2, none⟩ = some (.int .i64 (r.ent.length : Int)) := cell_of_row wc _ _ _ 43 (0, 0) hres
          have x1 : ∀ i, wc.frozen? ⟨R, i, none⟩ = false := fun i => frozen_of_row wc _ _ _ 43 hres
          have t0 : wc.cell? ⟨w.heap.size, 0, none⟩ = some (.int .i64 0) := cell_of_row wc _ _ _ 43 (0, 0) haf.res
          have t1 : wc.cell? ⟨w.heap.size, 1, none⟩ = some (.slice none 0 0) := cell_of_row wc _ _ _ 43 (0, 0) haf.res
          have t2 : wc.cell? ⟨w.heap.size, 2, none⟩ = some (.int .i64 0) := cell_of_row wc _ _ _ 43 (0, 0) haf.res
          have t3 : ∀ i, wc.frozen? ⟨w.heap.size, i, none⟩ = false := fun i => frozen_of_row wc _ _ _ 43 haf.res
          have o16 := haf.ovc
          obtain ⟨oa, oc, rfl⟩ := ownsRow_slice haf.row
          have HAF := hideIt haf
          have HRES := hideIt hres
          clear haf hres d6 HVA HVB HZA
          by_cases hc1 : r.code = 1
          · have hc1' : ((r.code : Int) == 1) = true := by rw [hc1]; rfl
            go_wp2
            refine bodyPost_ret (v := .agg #[.int .i64 1, .slice oa r.ord.length oc, .int .i64 (r.ent.length : Int)]) (by simp [results, Tryd.results57, go_sem, t0, t1, t2]) rfl ?_
            show VdTold b0 w (searchM ⟨o, ops, sameB, bud, nameB⟩) _ _
            rw [HRR.out]
            exact vd_one HAF.out ⟨_, HRES.out⟩ hbs h2 hc1 _ _ _
          · have hc1' : ((r.code : Int) == 1) = false := by simp; omega
            go_wp2
            refine bodyPost_ret (v := .agg #[.int .i64 (r.code : Int), .slice none 0 0, .int .i64 (r.ent.length : Int)]) (by simp [results, Tryd.results57, go_sem, t0, t1, t2]) rfl ?_
            show VdTold b0 w (searchM ⟨o, ops, sameB, bud, nameB⟩) _ _
            rw [HRR.out]
            exact vd_two HAF.out hbs hc1 _ _ _

end Go.Proofs.YtfojmbbhcmeejaaDoor.Sm

namespace Go.Proofs.YtfojmbbhcmeejaaDoor.Sm
open Go.RowKit

def srB (o : Int) (ops : List Opn) (bud : Nat) : Sr := ⟨o, ops, sameB, bud, nameB⟩
/-- What Check tells. -/
def JTold (o bud : Int) (ops : List Opn) (w : World) (e : Ending) (w' : World) : Prop :=
  Below w.heap.size w w' ∧ ((∃ n, n ≠ 0 ∧ LcTold o bud ops n ∧ e = .returned (.tuple #[.agg #[.int .i64 0, .slice none 0 0, .int .i64 0], toldV n])) ∨
    (LcTold o bud ops 0 ∧ ∃ ov, e = .returned (.tuple #[.agg #[.int .i64 ((searchM (srB o ops bud.toNat)).code : Int), ov, .int .i64 ((searchM (srB o ops bud.toNat)).ent.length : Int)], .nilIface]) ∧
      ((searchM (srB o ops bud.toNat)).code = 1 → w'.ownsRow w.heap.size 3 1 ov (searchM (srB o ops bud.toNat)).ord.length (ordV (searchM (srB o ops bud.toNat)).ord)) ∧ ((searchM (srB o ops bud.toNat)).code ≠ 1 → ov = .slice none 0 0)))

theorem ownsRow_base {w : World} {base base' : Nat} {e : TypeId} {size : Nat} {v : Value} {n : Nat} {xs : List Value} (h : w.ownsRow base e size v n xs) (hb : base' ≤ base) : w.ownsRow base' e size v n xs := by
  obtain ⟨hl, h | ⟨g, cap, cur, rfl, h0, h1⟩⟩ := h
  · exact ⟨hl, .inl h⟩
  · exact ⟨hl, .inr ⟨g, cap, cur, rfl, by omega, h1⟩⟩
theorem pre_mk {o : Int} {ops : List Opn} {bud : Nat} {u : Value} {w1 : World} {b0 : Nat} (hops : OpsIn w1 u ops) (hK : KnownAt w1) (hb0 : b0 ≤ w1.heap.size) (hopsb : ∀ a n c, u = .slice (some a) n c → 0 < n → a.block < b0) (hpos : 0 < b0) :
    PreV o ops bud u b0 (w1.heap.size + 1) w1.heap.size ((w1.alloc (.map #[] 0)).alloc (.cells #[.int .i64 o, u, .int .i64 bud, .func (.func 36) #[] #[], .slice none 0 0, .int .u64 0, .map (some w1.heap.size), .int .u64 0, .slice none 0 0, .slice none 0 0, .slice none 0 0, .slice none 0 0, .slice none 0 0, .slice none 0 0, .slice none 0 0, .slice none 0 0, .slice none 0 0, .slice none 0 0] 100)) := by
  have hb : Below w1.heap.size w1 ((w1.alloc (.map #[] 0)).alloc (.cells #[.int .i64 o, u, .int .i64 bud, .func (.func 36) #[] #[], .slice none 0 0, .int .u64 0, .map (some w1.heap.size), .int .u64 0, .slice none 0 0, .slice none 0 0, .slice none 0 0, .slice none 0 0, .slice none 0 0, .slice none 0 0, .slice none 0 0, .slice none 0 0, .slice none 0 0, .slice none 0 0] 100)) := belA (belA (Below.refl _ _) _) _
  refine ⟨?_, ?_, hops.below hb, hopsb, hK.below (by omega) hb, hpos, by omega, hb0⟩
  · have := heap_alloc_new (w1.alloc (.map #[] 0)) (.cells #[.int .i64 o, u, .int .i64 bud, .func (.func 36) #[] #[], .slice none 0 0, .int .u64 0, .map (some w1.heap.size), .int .u64 0, .slice none 0 0, .slice none 0 0, .slice none 0 0, .slice none 0 0, .slice none 0 0, .slice none 0 0, .slice none 0 0, .slice none 0 0, .slice none 0 0, .slice none 0 0] 100)
    simpa [blkG, nilS, fnB] using this
  · refine (setS_made w1).same (Below.heap_alloc _ _ _ (by simp))

set_option maxRecDepth 100000 in
set_option maxHeartbeats 4000000 in
theorem judge_any (o bud : Int) (ops : List Opn) (u : Value) (w : World) (hlen : ops.length ≤ 60) (hl : OpsIn w u ops) (hK : KnownAt w) :
    Calls Tryd.prog 35 #[.int .i64 o, u, .int .i64 bud, .func (.func 36) #[] #[]] w fun e w' => JTold o bud ops w e w' := by
  have hpos : 0 < w.heap.size := World.block_lt_of_cell? w ⟨0, 0 * 13 + 0, none⟩ (hK 0 0 (by decide) (by decide))
  have HO := hideIt (isObject_any o)
  have hb1 : Below w.heap.size w (w.alloc (.cells #[.int .i64 0, .slice none 0 0, .int .i64 0] 43)) := belA (Below.refl _ _) _
  have HC : Hid (Calls Tryd.prog 56 #[.int .i64 o, u] (w.alloc (.cells #[.int .i64 0, .slice none 0 0, .int .i64 0] 43)) fun e w' => ∃ n, e = .returned (toldV n) ∧ CkTold o ops n ∧ Below (w.alloc (.cells #[.int .i64 0, .slice none 0 0, .int .i64 0] 43)).heap.size (w.alloc (.cells #[.int .i64 0, .slice none 0 0, .int .i64 0] 43)) w') := hideIt (linCheck_any o ops u _ hlen (hl.below hb1) (hK.below hpos hb1))
  have hmm := @run_makeMap Tryd.prog
  have HL := hideIt hl
  have HK := hideIt hK
  obtain ⟨ua, ucap, rfl, huc, hum, hu3⟩ := hl
  have HB1 := hideIt hb1
  clear hK hu3 hb1
  cases ho : objB o
  · rw [ho] at HO
    have HX : Hid (JTold o bud ops w (.returned (.tuple #[.agg #[.int .i64 0, .slice none 0 0, .int .i64 0], toldV 1])) (w.alloc (.cells #[.int .i64 0, .slice none 0 0, .int .i64 0] 43))) := hideIt ⟨HB1.out, .inl ⟨1, by decide, .inl ⟨ho, rfl⟩, rfl⟩⟩
    clear ho
    go_enter Tryd.func35, Tryd.ntmps35
    go_wp2_with (go_at_call 55; refine (HO.out _).mono ?_; rintro e w1 ⟨rfl, rfl⟩)
    refine bodyPost_ret (v := .tuple #[.agg #[.int .i64 0, .slice none 0 0, .int .i64 0], .iface 23 (.int .i64 1)]) (by simp [results, Tryd.results35, go_sem]) rfl ?_
    have := HX.out
    rw [toldV_some (by decide : (1 : Int) ≠ 0)] at this
    exact this
  · rw [ho] at HO
    have HOO := hideIt ho
    clear ho
    by_cases hbd : bud < 0 ∨ 1000000 < bud
    · have HX : Hid (JTold o bud ops w (.returned (.tuple #[.agg #[.int .i64 0, .slice none 0 0, .int .i64 0], toldV 2])) (w.alloc (.cells #[.int .i64 0, .slice none 0 0, .int .i64 0] 43))) := hideIt ⟨HB1.out, .inl ⟨2, by decide, .inr (.inl ⟨HOO.out, hbd, rfl⟩), rfl⟩⟩
      rw [toldV_some (by decide : (2 : Int) ≠ 0)] at HX
      by_cases h0 : bud < 0
      · have h0' : decide (bud < 0) = true := by simpa using h0
        clear hbd
        go_enter Tryd.func35, Tryd.ntmps35
        go_wp2_with (go_at_call 55; refine (HO.out _).mono ?_; rintro e w1 ⟨rfl, rfl⟩)
        exact bodyPost_ret (v := .tuple #[.agg #[.int .i64 0, .slice none 0 0, .int .i64 0], .iface 23 (.int .i64 2)]) (by simp [results, Tryd.results35, go_sem]) rfl HX.out
      · have h0' : decide (bud < 0) = false := by simpa using h0
        have h1' : decide (1000000 < bud) = true := by simp; omega
        clear hbd
        go_enter Tryd.func35, Tryd.ntmps35
        go_wp2_with (go_at_call 55; refine (HO.out _).mono ?_; rintro e w1 ⟨rfl, rfl⟩)
        exact bodyPost_ret (v := .tuple #[.agg #[.int .i64 0, .slice none 0 0, .int .i64 0], .iface 23 (.int .i64 2)]) (by simp [results, Tryd.results35, go_sem]) rfl HX.out
    · have h0' : decide (bud < 0) = false := by simp; omega
      have h1' : decide (1000000 < bud) = false := by simp; omega
      obtain ⟨bn, rfl⟩ : ∃ bn : Nat, bud = bn := ⟨bud.toNat, by omega⟩
      have hbn : bn ≤ 1000000 := by omega
      have HLC : Hid (∀ n, CkTold o ops n → LcTold o bn ops n) := hideIt (fun n h => .inr (.inr ⟨HOO.out, by omega, by omega, h⟩))
      clear hbd
      go_enter Tryd.func35, Tryd.ntmps35
      go_wp2_with (first | (go_at_call 55; refine (HO.out _).mono ?_; rintro e w1 ⟨rfl, rfl⟩) | fail)
      refine HC.out.mono ?_
      rintro e w1 ⟨n, rfl, hct, hb1⟩
      have hbw := belJ HB1.out hb1
      have hR : w1.heap[w.heap.size]? = some z33 := (hb1.block w.heap.size (by simp)).trans (heap_alloc_new w _)
      have t0 : w1.cell? ⟨w.heap.size, 0, none⟩ = some (.int .i64 0) := cell_of_row w1 _ _ _ 43 (0, 0) hR
      have t1 : w1.cell? ⟨w.heap.size, 1, none⟩ = some (.slice none 0 0) := cell_of_row w1 _ _ _ 43 (0, 0) hR
      have t2 : w1.cell? ⟨w.heap.size, 2, none⟩ = some (.int .i64 0) := cell_of_row w1 _ _ _ 43 (0, 0) hR
      have t3 : ∀ i, w1.frozen? ⟨w.heap.size, i, none⟩ = false := fun i => frozen_of_row w1 _ _ _ 43 hR
      have hlt := lt_of_heap hR
      have HR := hideIt hR
      have HBW := hideIt hbw
      have HCT := hideIt hct
      clear hct hb1 hbw hR
      by_cases hz : n = 0
      · subst hz
        rw [toldV_zero]
        have ht := ckTold_told HCT.out
        have hpre := pre_mk (o := o) (bud := bn) (b0 := w1.heap.size) (HL.out.below HBW.out) (HK.out.below hpos HBW.out) (Nat.le_refl _) (fun a m c e h0 => by
          obtain ⟨a', cap', e', _, _, ho⟩ := HL.out.below HBW.out
          rcases ho with ho | ⟨b, off, e2, hlt, _⟩
          · rw [e'] at e; simp at e; rw [ho] at e; simp at e; omega
          · rw [e', e2] at e; simp at e; rw [← e.1]; exact hlt) (Nat.lt_of_lt_of_le hpos HBW.out.size)
        have HV := hideIt (verdict_any o ops bn _ w1.heap.size (w1.heap.size + 1) w1.heap.size _ hpre hlen hbn (told_keysN ht) (told_nums ht))
        have hpb : Below w1.heap.size w1 ((w1.alloc (.map #[] 0)).alloc (.cells #[.int .i64 o, .slice ua ops.length ucap, .int .i64 bn, .func (.func 36) #[] #[], .slice none 0 0, .int .u64 0, .map (some w1.heap.size), .int .u64 0, .slice none 0 0, .slice none 0 0, .slice none 0 0, .slice none 0 0, .slice none 0 0, .slice none 0 0, .slice none 0 0, .slice none 0 0, .slice none 0 0, .slice none 0 0] 100)) := belA (belA (Below.refl _ _) _) _
        have HPB := hideIt hpb
        clear ht hpre hpb
        go_wp2_with fail
        refine HV.out.mono ?_
        rintro e w2 ⟨ov, rfl, hb2, ho1, ho2⟩
        have hbb := HPB.out.trans hb2
        have hR2 : w2.heap[w.heap.size]? = some z33 := (hbb.block w.heap.size hlt).trans HR.out
        have s0 : w2.cell? ⟨w.heap.size, 0, none⟩ = some (.int .i64 0) := cell_of_row w2 _ _ _ 43 (0, 0) hR2
        have s1 : w2.cell? ⟨w.heap.size, 1, none⟩ = some (.slice none 0 0) := cell_of_row w2 _ _ _ 43 (0, 0) hR2
        have s2 : w2.cell? ⟨w.heap.size, 2, none⟩ = some (.int .i64 0) := cell_of_row w2 _ _ _ 43 (0, 0) hR2
        have s3 : ∀ i, w2.frozen? ⟨w.heap.size, i, none⟩ = false := fun i => frozen_of_row w2 _ _ _ 43 hR2
        have hov : ∃ a l c, ov = .slice a l c := by
          by_cases h1 : (searchM ⟨o, ops, sameB, bn, nameB⟩).code = 1
          · obtain ⟨a, c, e⟩ := ownsRow_slice (ho1 h1); exact ⟨a, _, c, e⟩
          · exact ⟨_, _, _, ho2 h1⟩
        have HX : Hid (JTold o bn ops w (.returned (.tuple #[.agg #[.int .i64 ((searchM ⟨o, ops, sameB, bn, nameB⟩).code : Int), ov, .int .i64 ((searchM ⟨o, ops, sameB, bn, nameB⟩).ent.length : Int)], .nilIface])) (((w2.setCell ⟨w.heap.size, 0, none⟩ (.int .i64 ((searchM ⟨o, ops, sameB, bn, nameB⟩).code : Int))).setCell ⟨w.heap.size, 1, none⟩ ov).setCell ⟨w.heap.size, 2, none⟩ (.int .i64 ((searchM ⟨o, ops, sameB, bn, nameB⟩).ent.length : Int)))) := hideIt (by
          refine ⟨(((HBW.out.trans (hbb.mono HBW.out.size)).setCell (p := ⟨w.heap.size, 0, none⟩) (Nat.le_refl _) _).setCell (p := ⟨w.heap.size, 1, none⟩) (Nat.le_refl _) _).setCell (p := ⟨w.heap.size, 2, none⟩) (Nat.le_refl _) _, .inr ⟨HLC.out 0 HCT.out, ov, rfl, fun hc => ?_, ho2⟩⟩
          have hrow := ho1 hc
          have n2 := row_off hrow hR2 (by decide)
          exact ownsRow_base (ownsRow_setCell_other (ownsRow_setCell_other (ownsRow_setCell_other hrow n2 _) n2 _) n2 _) (by omega))
        obtain ⟨va, vl, vc, rfl⟩ := hov
        generalize ((searchM ⟨o, ops, sameB, bn, nameB⟩).code : Int) = xc at HX ⊢
        generalize ((searchM ⟨o, ops, sameB, bn, nameB⟩).ent.length : Int) = xe at HX ⊢
        clear ho1 ho2 hbb hb2 hR2 t0 t1 t2 t3
        go_wp2
        exact bodyPost_ret (v := .tuple #[.agg #[.int .i64 xc, .slice va vl vc, .int .i64 xe], .nilIface]) (by simp [results, Tryd.results35, go_sem, s0, s1, s2]) rfl HX.out
      · have HX : Hid (JTold o bn ops w (.returned (.tuple #[.agg #[.int .i64 0, .slice none 0 0, .int .i64 0], toldV n])) (((w1.setCell ⟨w.heap.size, 0, none⟩ (.int .i64 0)).setCell ⟨w.heap.size, 1, none⟩ (.slice none 0 0)).setCell ⟨w.heap.size, 2, none⟩ (.int .i64 0))) :=
          hideIt ⟨((HBW.out.setCell (p := ⟨w.heap.size, 0, none⟩) (Nat.le_refl _) _).setCell (p := ⟨w.heap.size, 1, none⟩) (Nat.le_refl _) _).setCell (p := ⟨w.heap.size, 2, none⟩) (Nat.le_refl _) _, .inl ⟨n, hz, HLC.out n HCT.out, rfl⟩⟩
        rw [toldV_some hz] at HX ⊢
        go_wp2
        exact bodyPost_ret (v := .tuple #[.agg #[.int .i64 0, .slice none 0 0, .int .i64 0], .iface 23 (.int .i64 n)]) (by simp [results, Tryd.results35, go_sem, t0, t1, t2]) rfl HX.out

end Go.Proofs.YtfojmbbhcmeejaaDoor.Sm

namespace Go.Proofs.YtfojmbbhcmeejaaDoor.Sm
open Go.RowKit

theorem JTold.wider {o bud : Int} {ops : List Opn} {w W : World} {e : Ending} {w' : World} (h : JTold o bud ops W e w') (hb : Below w.heap.size w W) : JTold o bud ops w e w' := by
  obtain ⟨h1, h2⟩ := h
  refine ⟨belJ hb h1, ?_⟩
  rcases h2 with h2 | ⟨hl, ov, he, ho1, ho2⟩
  · exact .inl h2
  · exact .inr ⟨hl, ov, he, fun hc => ownsRow_base (ho1 hc) hb.size, ho2⟩

set_option maxRecDepth 100000 in
set_option maxHeartbeats 2000000 in
theorem same_all (o bud : Int) (ops : List Opn) (u : Value) (w : World) (hlen : ops.length ≤ 60) (hl : OpsIn w u ops) (hK : KnownAt w) :
    Calls Tryd.prog 19 #[.int .i64 o, u, .int .i64 bud] w fun e w' => JTold o bud ops w e w' := by
  have hpos : 0 < w.heap.size := World.block_lt_of_cell? w ⟨0, 0 * 13 + 0, none⟩ (hK 0 0 (by decide) (by decide))
  have hb1 : Below w.heap.size w (w.alloc (.cells #[.int .i64 0, .slice none 0 0, .int .i64 0] 43)) := belA (Below.refl _ _) _
  have HC := hideIt (judge_any o bud ops u _ hlen (hl.below hb1) (hK.below hpos hb1))
  have HB1 := hideIt hb1
  clear hl hK hb1
  go_enter Tryd.func19, Tryd.ntmps19
  go_wp2_with fail
  refine HC.out.mono ?_
  intro e w2 hj
  have hb2 := hj.1
  have hR2 : w2.heap[w.heap.size]? = some z33 := (hb2.block w.heap.size (by simp)).trans (heap_alloc_new w _)
  have s0 : w2.cell? ⟨w.heap.size, 0, none⟩ = some (.int .i64 0) := cell_of_row w2 _ _ _ 43 (0, 0) hR2
  have s1 : w2.cell? ⟨w.heap.size, 1, none⟩ = some (.slice none 0 0) := cell_of_row w2 _ _ _ 43 (0, 0) hR2
  have s2 : w2.cell? ⟨w.heap.size, 2, none⟩ = some (.int .i64 0) := cell_of_row w2 _ _ _ 43 (0, 0) hR2
  have s3 : ∀ i, w2.frozen? ⟨w.heap.size, i, none⟩ = false := fun i => frozen_of_row w2 _ _ _ 43 hR2
  have hj' := hj.wider HB1.out
  have hset : ∀ x y z, Below w.heap.size w (((w2.setCell ⟨w.heap.size, 0, none⟩ x).setCell ⟨w.heap.size, 1, none⟩ y).setCell ⟨w.heap.size, 2, none⟩ z) := fun x y z =>
    ((hj'.1.setCell (p := ⟨w.heap.size, 0, none⟩) (Nat.le_refl _) _).setCell (p := ⟨w.heap.size, 1, none⟩) (Nat.le_refl _) _).setCell (p := ⟨w.heap.size, 2, none⟩) (Nat.le_refl _) _
  obtain ⟨_, ⟨n, hn, hlc, rfl⟩ | ⟨hlc, ov, rfl, ho1, ho2⟩⟩ := hj'
  · have HX : Hid (JTold o bud ops w (.returned (.tuple #[.agg #[.int .i64 0, .slice none 0 0, .int .i64 0], toldV n])) (((w2.setCell ⟨w.heap.size, 0, none⟩ (.int .i64 0)).setCell ⟨w.heap.size, 1, none⟩ (.slice none 0 0)).setCell ⟨w.heap.size, 2, none⟩ (.int .i64 0))) := hideIt ⟨hset _ _ _, .inl ⟨n, hn, hlc, rfl⟩⟩
    rw [toldV_some hn] at HX ⊢
    clear hj hb2 hset hR2
    go_wp2
    exact bodyPost_ret (v := .tuple #[.agg #[.int .i64 0, .slice none 0 0, .int .i64 0], .iface 23 (.int .i64 n)]) (by simp [results, Tryd.results19, go_sem, s0, s1, s2]) rfl HX.out
  · have hov : ∃ a l c, ov = .slice a l c := by
      by_cases h1 : (searchM (srB o ops bud.toNat)).code = 1
      · obtain ⟨a, c, e⟩ := ownsRow_slice (ho1 h1); exact ⟨a, _, c, e⟩
      · exact ⟨_, _, _, ho2 h1⟩
    have HX : Hid (JTold o bud ops w (.returned (.tuple #[.agg #[.int .i64 ((searchM (srB o ops bud.toNat)).code : Int), ov, .int .i64 ((searchM (srB o ops bud.toNat)).ent.length : Int)], .nilIface])) (((w2.setCell ⟨w.heap.size, 0, none⟩ (.int .i64 ((searchM (srB o ops bud.toNat)).code : Int))).setCell ⟨w.heap.size, 1, none⟩ ov).setCell ⟨w.heap.size, 2, none⟩ (.int .i64 ((searchM (srB o ops bud.toNat)).ent.length : Int)))) := hideIt (by
      refine ⟨hset _ _ _, .inr ⟨hlc, ov, rfl, fun hc => ?_, ho2⟩⟩
      have hrow := ho1 hc
      have n2 := row_off hrow hR2 (by decide)
      exact ownsRow_setCell_other (ownsRow_setCell_other (ownsRow_setCell_other hrow n2 _) n2 _) n2 _)
    obtain ⟨va, vl, vc, rfl⟩ := hov
    generalize ((searchM (srB o ops bud.toNat)).code : Int) = xc at HX ⊢
    generalize ((searchM (srB o ops bud.toNat)).ent.length : Int) = xe at HX ⊢
    clear hj hb2 hset hR2 ho1 ho2
    go_wp2
    exact bodyPost_ret (v := .tuple #[.agg #[.int .i64 xc, .slice va vl vc, .int .i64 xe], .nilIface]) (by simp [results, Tryd.results19, go_sem, s0, s1, s2]) rfl HX.out

end Go.Proofs.YtfojmbbhcmeejaaDoor.Sm
