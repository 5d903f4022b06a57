/-
  Package linear's isTimely: walked.
  Package linear's Shows: walked.
-/
import Derived.Test.YtndogemgjjgbgabDoorWholeW
import Derived.Deep.RegionHeld3
namespace Go.Proofs.YtndogemgjjgbgabDoor
open Go.RowKit

def TimelyTo (ops : List Opn) (ord : List Int) (k : Nat) : Prop := ∀ j, (hj : j < ord.length) → j < k → ∀ i, (hi : i < j) → beforeB (opI ops ord[j]) (opI ops (ord[i]'(Nat.lt_trans hi hj))) = false
def TimelyAt (ops : List Opn) (ord : List Int) (k m : Nat) : Prop := ∀ (hk : k < ord.length) i, (hi : i < k) → i < m → beforeB (opI ops ord[k]) (opI ops (ord[i]'(Nat.lt_trans hi hk))) = false
theorem timelyTo_zero (ops : List Opn) (ord : List Int) : TimelyTo ops ord 0 := fun j _ h => by omega
theorem timelyAt_zero (ops : List Opn) (ord : List Int) (k : Nat) : TimelyAt ops ord k 0 := fun _ i _ h => by omega
theorem TimelyTo.succ {ops : List Opn} {ord : List Int} {k : Nat} (h : TimelyTo ops ord k) (ha : TimelyAt ops ord k k) : TimelyTo ops ord (k + 1) := fun j hj hjk i hi => by
  by_cases e : j < k
  · exact h j hj e i hi
  · obtain rfl : j = k := by omega
    exact ha hj i hi hi
theorem TimelyAt.succ {ops : List Opn} {ord : List Int} {k m : Nat} (h : TimelyAt ops ord k m) (hk : k < ord.length) (hm : m < k) (hb : beforeB (opI ops ord[k]) (opI ops (ord[m]'(Nat.lt_trans hm hk))) = false) : TimelyAt ops ord k (m + 1) := fun hk' i hi him => by
  by_cases e : i < m
  · exact h hk' i hi e
  · obtain rfl : i = m := by omega
    exact hb

set_option maxRecDepth 100000 in
set_option maxHeartbeats 4000000 in
theorem isTimely_any (ops : List Opn) (ord : List Int) (u v : Value) (w : World) (hlen : ops.length ≤ 60) (hl : OpsIn w u ops) (hv : HasInts w v ord) (hok : ∀ n ∈ ord, 0 ≤ n ∧ n < (ops.length : Int)) :
    Calls Tryd.prog 19 #[u, v] w fun e w' => BoolTold (TimelyTo ops ord ord.length) w e w' := by
  have HV0 := hideIt hv
  have HL0 := hideIt hl
  have HVB : Hid (∀ wr, Below w.heap.size w wr → ∀ j, (hj : j < ord.length) → ∃ n : Nat, ∃ hn : n < ops.length, ord[j] = n ∧ opI ops ord[j] = ops[n]) := hideIt (fun wr _ j hj => by
    have := hok _ (List.getElem_mem hj)
    refine ⟨ord[j].toNat, by omega, by omega, ?_⟩
    unfold opI
    exact opN_at (by omega))
  obtain ⟨a, cap, rfl, hc, hm, hops⟩ := hl
  obtain ⟨a', cap', rfl, hm1, hm2, _, hv⟩ := hv
  unfold maxLen at hm2 hm
  have HV : Hid (∀ wr, Below w.heap.size w wr → ∀ j, (hj : j < ord.length) → ∃ b off, a' = some ⟨b, off, none⟩ ∧ wr.cell? ⟨b, off + j, none⟩ = some (.int .i64 ord[j])) := hideIt (fun wr hW j hj => by
    obtain h | ⟨b, off, e, hc⟩ := hv
    · subst h; simp at hj
    · exact ⟨b, off, e, (hW.cell (p := ⟨b, off + j, none⟩) (World.block_lt_of_cell? w _ (hc j hj))).trans (hc j hj)⟩)
  have HOP : Hid (∀ n, (hn : n < ops.length) → ∃ b off, a = some ⟨b, off, none⟩ ∧ ∀ wr, Below w.heap.size w wr → OpAt wr b (off + n * 8) ops[n]) := hideIt (fun n hn => by
    obtain h | ⟨b, off, e, hlt, hc⟩ := hops
    · subst h; simp at hn
    · exact ⟨b, off, e, fun wr hW => (hc n hn).below hlt hW⟩)
  clear hv hops hok
  go_enter Tryd.func19, Tryd.ntmps19
  go_wp2
  go_loopw [11] (fun i wr => ∃ k : Nat, k ≤ ord.length ∧ i = .int .i64 k ∧ TimelyTo ops ord k ∧ Below w.heap.size w wr) (fun i _ => ord.length - (intOf i).toNat)
  case atStart => exact ⟨0, by omega, rfl, timelyTo_zero _ _, Below.refl _ _⟩
  case round =>
    obtain ⟨k, hk, rfl, ht, hb⟩ := hrel
    have HT := hideIt ht
    have HB := hideIt hb
    clear ht hb
    by_cases hkl : k < ord.length
    · obtain ⟨b, off, rfl, hcell⟩ := HV.out wr HB.out k hkl
      obtain ⟨n, hn, hon, hop⟩ := HVB.out wr HB.out k hkl
      have HON := hideIt hon
      have HOPN := hideIt hop
      rw [hon] at hcell
      clear hon hop
      go_wp2
      go_loopw [20] (fun i wy => ∃ m : Nat, m ≤ k ∧ i = .int .i64 m ∧ TimelyAt ops ord k m ∧ Below w.heap.size w wy) (fun i _ => k - (intOf i).toNat)
      case atStart => exact ⟨0, by omega, rfl, timelyAt_zero _ _ _, HB.out⟩
      case round =>
        obtain ⟨m, hm', rfl, hta, hby⟩ := hrel
        have HTA := hideIt hta
        have HBY := hideIt hby
        clear hta hby
        by_cases hmk : m < k
        · obtain ⟨b2, off2, he2, hcell2⟩ := HV.out _ HBY.out m (by omega)
          obtain ⟨rfl, rfl⟩ : b2 = b ∧ off2 = off := by simp at he2; exact ⟨he2.1.symm, he2.2.symm⟩
          clear he2
          obtain ⟨n2, hn2, hon2, hop2⟩ := HVB.out _ HBY.out m (by omega)
          rw [hon2] at hcell2
          obtain ⟨bo, offo, rfl, hopn⟩ := HOP.out n hn
          obtain ⟨bo2, offo2, he2, hopn2⟩ := HOP.out n2 hn2
          obtain ⟨rfl, rfl⟩ : bo2 = bo ∧ offo2 = offo := by simp at he2; exact ⟨he2.1.symm, he2.2.symm⟩
          clear he2
          obtain ⟨c0, c1, c2, c3, c4, c5, c6, c7⟩ := hopn _ HBY.out
          obtain ⟨d0, d1, d2, d3, d4, d5, d6, d7⟩ := hopn2 _ HBY.out
          have HX : Hid (∀ w2, Below wr.drew.heap.size wr.drew w2 → OpAt w2 bo2 (offo2 + n * 8) ops[n]) := hideIt (fun w2 h2 => hopn w2 (belJ (HBY.out.drew) h2))
          have HY : Hid (∀ w2, Below wr.drew.heap.size wr.drew w2 → OpAt w2 bo2 (offo2 + n2 * 8) ops[n2]) := hideIt (fun w2 h2 => hopn2 w2 (belJ (HBY.out.drew) h2))
          clear hopn hopn2
          have HBE : Hid (beforeB (opI ops ord[k]) (opI ops ord[m]) = beforeB ops[n] ops[n2]) := hideIt (by rw [HOPN.out, hop2])
          have HC := hideIt (fun W => before_any ops[n] ops[n2] W)
          unfold Opn.agg at HC
          clear hop2 hon2
          have i1 : (0 : Int) ≤ (n : Int) := by omega
          have i2 : (n : Int) < (ops.length : Int) := by omega
          have i3 : (0 : Int) ≤ (n2 : Int) := by omega
          have i4 : (n2 : Int) < (ops.length : Int) := by omega
          cases hbe : beforeB ops[n] ops[n2]
          · rw [hbe] at HC HBE
            clear hbe
            go_wp2_with fail
            go_region_held3 (fun w' => w'.cell? ⟨bo2, offo2 + n * 8, none⟩ = some (.int .i64 ops[n].p) ∧ w'.cell? ⟨bo2, offo2 + n * 8 + 1, none⟩ = some (.int .i64 ops[n].k) ∧ w'.cell? ⟨bo2, offo2 + n * 8 + 2, none⟩ = some (.int .i64 ops[n].d) ∧ w'.cell? ⟨bo2, offo2 + n * 8 + 3, none⟩ = some (.int .i64 ops[n].a) ∧ w'.cell? ⟨bo2, offo2 + n * 8 + 4, none⟩ = some (.int .i64 ops[n].b) ∧ w'.cell? ⟨bo2, offo2 + n * 8 + 5, none⟩ = some (.int .i64 ops[n].r) ∧ w'.cell? ⟨bo2, offo2 + n * 8 + 6, none⟩ = some (.int .i64 ops[n].c) ∧ w'.cell? ⟨bo2, offo2 + n * 8 + 7, none⟩ = some (.int .i64 ops[n].e) ∧ w'.cell? ⟨bo2, offo2 + n2 * 8, none⟩ = some (.int .i64 ops[n2].p) ∧ w'.cell? ⟨bo2, offo2 + n2 * 8 + 1, none⟩ = some (.int .i64 ops[n2].k) ∧ w'.cell? ⟨bo2, offo2 + n2 * 8 + 2, none⟩ = some (.int .i64 ops[n2].d) ∧ w'.cell? ⟨bo2, offo2 + n2 * 8 + 3, none⟩ = some (.int .i64 ops[n2].a) ∧ w'.cell? ⟨bo2, offo2 + n2 * 8 + 4, none⟩ = some (.int .i64 ops[n2].b) ∧ w'.cell? ⟨bo2, offo2 + n2 * 8 + 5, none⟩ = some (.int .i64 ops[n2].r) ∧ w'.cell? ⟨bo2, offo2 + n2 * 8 + 6, none⟩ = some (.int .i64 ops[n2].c) ∧ w'.cell? ⟨bo2, offo2 + n2 * 8 + 7, none⟩ = some (.int .i64 ops[n2].e)) (go_keep)
              (first | (go_at_call 15; refine (HC.out _).mono ?_; rintro e w2 ⟨rfl, hb2⟩; have HB2 := hideIt hb2; obtain ⟨p0, p1, p2, p3, p4, p5, p6, p7⟩ := HX.out w2 hb2; obtain ⟨q0, q1, q2, q3, q4, q5, q6, q7⟩ := HY.out w2 hb2; clear hb2))
            go_wp2
            go_roundw
            case rel => exact ⟨m + 1, by omega, by go_num, HTA.out.succ hkl hmk HBE.out, belJ HBY.out.drew HB2.out⟩
            case measure => simp [intOf]; omega
          · rw [hbe] at HC HBE
            clear hbe
            go_wp2_with fail
            go_region_held3 (fun w' => w'.cell? ⟨bo2, offo2 + n * 8, none⟩ = some (.int .i64 ops[n].p) ∧ w'.cell? ⟨bo2, offo2 + n * 8 + 1, none⟩ = some (.int .i64 ops[n].k) ∧ w'.cell? ⟨bo2, offo2 + n * 8 + 2, none⟩ = some (.int .i64 ops[n].d) ∧ w'.cell? ⟨bo2, offo2 + n * 8 + 3, none⟩ = some (.int .i64 ops[n].a) ∧ w'.cell? ⟨bo2, offo2 + n * 8 + 4, none⟩ = some (.int .i64 ops[n].b) ∧ w'.cell? ⟨bo2, offo2 + n * 8 + 5, none⟩ = some (.int .i64 ops[n].r) ∧ w'.cell? ⟨bo2, offo2 + n * 8 + 6, none⟩ = some (.int .i64 ops[n].c) ∧ w'.cell? ⟨bo2, offo2 + n * 8 + 7, none⟩ = some (.int .i64 ops[n].e) ∧ w'.cell? ⟨bo2, offo2 + n2 * 8, none⟩ = some (.int .i64 ops[n2].p) ∧ w'.cell? ⟨bo2, offo2 + n2 * 8 + 1, none⟩ = some (.int .i64 ops[n2].k) ∧ w'.cell? ⟨bo2, offo2 + n2 * 8 + 2, none⟩ = some (.int .i64 ops[n2].d) ∧ w'.cell? ⟨bo2, offo2 + n2 * 8 + 3, none⟩ = some (.int .i64 ops[n2].a) ∧ w'.cell? ⟨bo2, offo2 + n2 * 8 + 4, none⟩ = some (.int .i64 ops[n2].b) ∧ w'.cell? ⟨bo2, offo2 + n2 * 8 + 5, none⟩ = some (.int .i64 ops[n2].r) ∧ w'.cell? ⟨bo2, offo2 + n2 * 8 + 6, none⟩ = some (.int .i64 ops[n2].c) ∧ w'.cell? ⟨bo2, offo2 + n2 * 8 + 7, none⟩ = some (.int .i64 ops[n2].e)) (go_keep)
              (first | (go_at_call 15; refine (HC.out _).mono ?_; rintro e w2 ⟨rfl, hb2⟩; have HB2 := hideIt hb2; obtain ⟨p0, p1, p2, p3, p4, p5, p6, p7⟩ := HX.out w2 hb2; obtain ⟨q0, q1, q2, q3, q4, q5, q6, q7⟩ := HY.out w2 hb2; clear hb2))
            go_wp2
            go_ret
            exact toldNo (fun h => by have := h k hkl hkl m hmk; rw [HBE.out] at this; cases this) (belJ HBY.out.drew HB2.out)
        · have HE : Hid (TimelyTo ops ord (k + 1)) := hideIt (HT.out.succ (by
            have : m = k := by omega
            exact this ▸ HTA.out))
          go_wp2
          go_roundw
          case rel => exact ⟨k + 1, by omega, by go_num, HE.out, HBY.out⟩
          case measure => simp [intOf]; omega
    · have HE : Hid (TimelyTo ops ord ord.length) := hideIt (by
        have : k = ord.length := by omega
        exact this ▸ HT.out)
      go_wp2
      go_ret
      exact toldYes HE.out HB.out

end Go.Proofs.YtndogemgjjgbgabDoor

namespace Go.Proofs.YtndogemgjjgbgabDoor
open Go.RowKit

theorem told_zero {l : List Opn} (h : Told l 0) : l.length ≤ 40 ∧ ∀ j, (hj : j < l.length) → opFaultN (l.take j) l[j] = 0 := by
  rcases h with ⟨_, h⟩ | ⟨h1, h2, _⟩ | ⟨_, k, hk, _, hne, h⟩
  · cases h
  · exact ⟨h1, h2⟩
  · exact absurd h.symm hne
theorem fault_zero {l : List Opn} {x : Opn} (h : opFaultN l x = 0) : rangeB x = true ∧ kindB x.d = true ∧ orderB l x = true ∧ l.any (fun y => shareB y x) = false ∧ l.any (fun y => clashB y x) = false := by
  unfold opFaultN at h
  cases h1 : rangeB x
  · simp [h1] at h
  · cases h2 : kindB x.d
    · simp [h1, h2] at h
    · cases h3 : orderB l x
      · simp [h1, h2, h3] at h
      · cases h4 : l.any (fun y => shareB y x)
        · cases h5 : l.any (fun y => clashB y x)
          · exact ⟨rfl, rfl, rfl, rfl, rfl⟩
          · rw [h1, h2, h3, h4, h5] at h; simp at h
        · rw [h1, h2, h3, h4] at h; simp at h
theorem told_keys {l : List Opn} (h : Told l 0) : ∀ op ∈ l, 0 ≤ op.k ∧ op.k < 8 := fun op hop => by
  obtain ⟨j, hj, rfl⟩ := List.getElem_of_mem hop
  have := (fault_zero ((told_zero h).2 j hj)).1
  simp [rangeB, inB, eightB] at this
  omega
theorem told_keysN {l : List Opn} (h : Told l 0) : ∀ n, n < l.length → 0 ≤ (opN l n).k ∧ (opN l n).k < 8 := fun n hn => by
  rw [opN_at hn]; exact told_keys h _ (List.getElem_mem hn)

/-- What Shows tells. -/
def ShTold (o : Int) (ops : List Opn) (ord : List Int) (w : World) (e : Ending) (w' : World) : Prop :=
  Below w.heap.size w w' ∧ ((objB o = false ∧ e = .returned (.tuple #[.bool false, toldV 1])) ∨ (objB o = true ∧ ∃ n, n ≠ 0 ∧ CkTold o ops n ∧ e = .returned (.tuple #[.bool false, toldV n])) ∨
    (objB o = true ∧ CkTold o ops 0 ∧ ∃ b, (b = true ↔ ShowsM o ops ord) ∧ e = .returned (.tuple #[.bool b, .nilIface])))

theorem showsM_of {o : Int} {ops : List Opn} {ord : List Int} {z : Int} (hw : WholeP ops ord) (ht : TimelyTo ops ord ord.length) (hr : RunTold o ops ord z) : (z == -1) = true ↔ ShowsM o ops ord := by
  rw [beq_iff_eq]
  constructor
  · rintro rfl
    refine ⟨hw.ok.1, hw.ok.2, hw.whole, fun j hj i hi => ht j hj hj i hi, ?_⟩
    rcases hr with ⟨k, _, _, _, h⟩ | ⟨h, _⟩
    · omega
    · exact h
  · intro h
    rcases hr with ⟨k, hk, _, h2, _⟩ | ⟨_, h⟩
    · rw [h.fine k hk] at h2; cases h2
    · exact h
theorem not_whole {o : Int} {ops : List Opn} {ord : List Int} (h : ¬ WholeP ops ord) : ¬ ShowsM o ops ord := fun hs => h ⟨⟨hs.range, hs.once⟩, hs.whole⟩
theorem not_timely {o : Int} {ops : List Opn} {ord : List Int} (h : ¬ TimelyTo ops ord ord.length) : ¬ ShowsM o ops ord := fun hs => h (fun j hj _ i hi => hs.timely j hj i hi)

set_option maxRecDepth 100000 in
set_option maxHeartbeats 2000000 in
theorem shows_any (o : Int) (ops : List Opn) (ord : List Int) (u v : Value) (w : World) (hlen : ops.length ≤ 60) (hord : ord.length ≤ 60) (hl : OpsIn w u ops) (hv : HasInts w v ord) (hK : KnownAt w) :
    Calls Tryd.prog 10 #[.int .i64 o, u, v] w fun e w' => ShTold o ops ord w e w' := by
  have hpos : 0 < w.heap.size := World.block_lt_of_cell? w ⟨0, 0 * 13 + 0, none⟩ (hK 0 0 (by decide) (by decide))
  have HO := hideIt (isObject_any o)
  have HC := hideIt (linCheck_any o ops u w hlen hl hK)
  have HW : Hid (∀ w1, Below w.heap.size w w1 → Calls Tryd.prog 18 #[u, v] w1 fun e w' => BoolTold (WholeP ops ord) w1 e w') := hideIt (fun w1 hb => isWhole_any ops ord u v w1 hlen (hl.below hb) (hv.below hb))
  have HT : Hid (∀ w1, Below w.heap.size w w1 → WholeP ops ord → Calls Tryd.prog 19 #[u, v] w1 fun e w' => BoolTold (TimelyTo ops ord ord.length) w1 e w') := hideIt (fun w1 hb hw => isTimely_any ops ord u v w1 hlen (hl.below hb) (hv.below hb) hw.ok.1)
  have HR : Hid (∀ w1, Below w.heap.size w w1 → Told ops 0 → Calls Tryd.prog 20 #[.int .i64 o, u, v] w1 fun e w' => ∃ z, e = .returned (.int .i64 z) ∧ RunTold o ops ord z ∧ Below w1.heap.size w1 w') := hideIt (fun w1 hb ht =>
    run_any o ops ord u v w1 (hl.below hb).has (hv.below hb) (hK.below hpos hb) (Nat.lt_of_lt_of_le hpos hb.size) hord (told_keys ht))
  clear hl hv hK
  cases ho : objB o
  · rw [ho] at HO
    have HOO := hideIt ho
    clear ho
    go_enter Tryd.func10, Tryd.ntmps10
    go_wp2_with (go_at_call 16; refine (HO.out _).mono ?_; rintro e w1 ⟨rfl, rfl⟩)
    go_ret2
    exact ⟨Below.refl _ _, .inl ⟨HOO.out, by rfl⟩⟩
  · rw [ho] at HO
    have HOO := hideIt ho
    clear ho
    go_enter Tryd.func10, Tryd.ntmps10
    go_wp2_with (first | (go_at_call 16; refine (HO.out _).mono ?_; rintro e w1 ⟨rfl, rfl⟩) | fail)
    refine HC.out.mono ?_
    rintro e w1 ⟨n, rfl, hct, hb1⟩
    have HCT := hideIt hct
    have HB1 := hideIt hb1
    clear hct hb1
    by_cases hz : n = 0
    · subst hz
      have HT0 : Hid (Told ops 0) := hideIt (by
        rcases HCT.out with ⟨h, _⟩ | ⟨h, _⟩ | ⟨h, _⟩
        · exact absurd rfl h
        · exact h
        · exact h)
      rw [toldV_zero]
      go_wp2_with fail
      refine (HW.out _ HB1.out).mono ?_
      rintro e w2 ⟨b, rfl, hb, hb2⟩
      have HB2 := hideIt (belJ HB1.out hb2)
      have HWB := hideIt hb
      clear hb hb2
      cases b
      · have HN := hideIt (not_whole (o := o) (fun h => by have := HWB.out.2 h; cases this))
        go_wp2
        go_ret2
        exact ⟨HB2.out, .inr (.inr ⟨HOO.out, HCT.out, false, ⟨fun h => (by cases h), fun h => absurd h HN.out⟩, rfl⟩)⟩
      · have HWH := hideIt (HWB.out.1 rfl)
        go_wp2_with fail
        refine (HT.out _ HB2.out HWH.out).mono ?_
        rintro e w3 ⟨b, rfl, hb, hb3⟩
        have HB3 := hideIt (belJ HB2.out hb3)
        have HTB := hideIt hb
        clear hb hb3
        cases b
        · have HN := hideIt (not_timely (o := o) (fun h => by have := HTB.out.2 h; cases this))
          go_wp2
          go_ret2
          exact ⟨HB3.out, .inr (.inr ⟨HOO.out, HCT.out, false, ⟨fun h => (by cases h), fun h => absurd h HN.out⟩, rfl⟩)⟩
        · have HTI := hideIt (HTB.out.1 rfl)
          go_wp2_with fail
          refine (HR.out _ HB3.out HT0.out).mono ?_
          rintro e w4 ⟨z, rfl, hrt, hb4⟩
          have HB4 := hideIt (belJ HB3.out hb4)
          have HS := hideIt (showsM_of HWH.out HTI.out hrt)
          clear hrt hb4
          go_wp2
          go_ret2
          exact ⟨HB4.out, .inr (.inr ⟨HOO.out, HCT.out, (z == -1), HS.out, rfl⟩)⟩
    · rw [toldV_some hz]
      go_wp2
      go_ret2
      exact ⟨HB1.out, .inr (.inl ⟨HOO.out, n, hz, HCT.out, by rw [toldV_some hz]; rfl⟩)⟩

end Go.Proofs.YtndogemgjjgbgabDoor
