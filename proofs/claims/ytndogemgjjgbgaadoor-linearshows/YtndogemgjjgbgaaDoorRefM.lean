/-
  The document's own Shows: walked.
-/
import Derived.Test.YtndogemgjjgbgaaDoorRefL
namespace Go.Proofs.YtndogemgjjgbgaaDoor
open Go.RowKit

/-- One in an order stands apart from those ahead of it. -/
def ApartAt (ord : List Int) (k m : Nat) : Prop := ∀ (hk : k < ord.length) i, (hi : i < k) → i < m → ord[i]'(Nat.lt_trans hi hk) ≠ ord[k]
theorem ApartAt.succ {ord : List Int} {k m : Nat} (h : ApartAt ord k m) (hk : k < ord.length) (hm : m < k) (hb : ord[m]'(Nat.lt_trans hm hk) ≠ ord[k]) : ApartAt ord k (m + 1) := fun hk' i hi him => by
  by_cases e : i < m
  · exact h hk' i hi e
  · obtain rfl : i = m := by omega
    exact hb
theorem okTo_step {ops : List Opn} {ord : List Int} {k : Nat} (h : OkTo ops (ord.take k)) (hk : k < ord.length) (hr : 0 ≤ ord[k] ∧ ord[k] < (ops.length : Int)) (ha : ApartAt ord k k) : OkTo ops (ord.take (k + 1)) := by
  rw [take_snoc ord k hk]
  refine ⟨fun x hx => ?_, List.nodup_append.2 ⟨h.2, by simp, fun a ha' b hb e => ?_⟩⟩
  · rcases List.mem_append.1 hx with hx | hx
    · exact h.1 x hx
    · rw [List.mem_singleton.1 hx]; exact hr
  · rw [List.mem_singleton.1 hb] at e
    obtain ⟨i, hi, e2⟩ := List.getElem_of_mem ha'
    have hi' : i < k := by simp at hi; omega
    rw [List.getElem_take] at e2
    exact ha hk i hi' hi' (e2.trans e)
theorem okTo_not_apart {ops : List Opn} {ord : List Int} {k m : Nat} (hk : k < ord.length) (hm : m < k) (e : ord[m] = ord[k]) : ¬ OkTo ops ord := fun h =>
  (List.pairwise_iff_getElem.1 h.2) m k (by omega) hk hm e

def WholeTo (ops : List Opn) (ord : List Int) (i : Nat) : Prop := ∀ n, n < ops.length → n < i → 0 ≤ (opN ops n).e → (n : Int) ∈ ord
def inB2 (ord : List Int) (i m : Nat) : Bool := (ord.take m).contains (i : Int)
theorem inB2_succ {ord : List Int} {i m : Nat} (h : m < ord.length) : inB2 ord i (m + 1) = (inB2 ord i m || ord[m] == (i : Int)) := by
  unfold inB2
  rw [take_snoc ord m h, Bool.eq_iff_iff]
  simp only [List.contains_iff_mem, List.mem_append, List.mem_singleton, Bool.or_eq_true, beq_iff_eq]
  exact ⟨fun h => h.imp id Eq.symm, fun h => h.imp id Eq.symm⟩
theorem wholeTo_succ {ops : List Opn} {ord : List Int} {i : Nat} (h : WholeTo ops ord i) (hi : i < ops.length) (hx : (i : Int) ∈ ord ∨ ¬ 0 ≤ ops[i].e) : WholeTo ops ord (i + 1) := fun n hn hni he => by
  by_cases e : n < i
  · exact h n hn e he
  · obtain rfl : n = i := by omega
    rw [opN_at hi] at he
    exact hx.resolve_right (fun h => h he)

set_option maxRecDepth 100000 in
set_option maxHeartbeats 8000000 in
theorem refShows_any (o : Int) (ops : List Opn) (ord : List Int) (u v : Value) (w : World) (hlen : ops.length ≤ 60) (hord : ord.length ≤ 60) (hl : OpsIn w u ops) (hv : HasInts w v ord) (hkey : ∀ op ∈ ops, 0 ≤ op.k ∧ op.k < 8) :
    Calls Tryd.prog 10 #[.int .i64 o, u, v] w fun e w' => BoolTold (ShowsM o ops ord) w e w' := by
  have HR : Hid (∀ w1, Below w.heap.size w w1 → Calls Tryd.prog 24 #[.int .i64 o, u, v] w1 fun e w' => ∃ z, e = .returned (.int .i64 z) ∧ RunTold o ops ord z ∧ Below w1.heap.size w1 w') := hideIt (fun w1 hb =>
    refRun_any o ops ord u v w1 (hl.below hb).has (hv.below hb) hord hkey)
  clear hkey
  obtain ⟨a, cap, rfl, hc, hm, hops⟩ := hl
  obtain ⟨a', cap', rfl, hm1, hm2, _, hv⟩ := hv
  unfold maxLen at hm2 hm
  have HV : Hid (∀ wr, Below w.heap.size w wr → ∀ j, (hj : j < ord.length) → ∃ b off, a' = some ⟨b, off, none⟩ ∧ wr.cell? ⟨b, off + j, none⟩ = some (.int .i64 ord[j])) := hideIt (fun wr hW j hj => by
    obtain h | ⟨b, off, e, hc⟩ := hv
    · subst h; simp at hj
    · exact ⟨b, off, e, (hW.cell (p := ⟨b, off + j, none⟩) (World.block_lt_of_cell? w _ (hc j hj))).trans (hc j hj)⟩)
  have HOP : Hid (∀ n, (hn : n < ops.length) → ∃ b off, a = some ⟨b, off, none⟩ ∧ ∀ wr, Below w.heap.size w wr → OpAt wr b (off + n * 8) ops[n]) := hideIt (fun n hn => by
    obtain h | ⟨b, off, e, hlt, hc⟩ := hops
    · subst h; simp at hn
    · exact ⟨b, off, e, fun wr hW => (hc n hn).below hlt hW⟩)
  clear hv hops
  go_enter Tryd.func10, Tryd.ntmps10
  go_wp2
  go_loopw [18] (fun i wr => ∃ k : Nat, k ≤ ord.length ∧ i = .int .i64 k ∧ OkTo ops (ord.take k) ∧ TimelyTo ops ord k ∧ Below w.heap.size w wr) (fun i _ => ord.length - (intOf i).toNat)
  case atStart => exact ⟨0, by omega, rfl, okTo_nil _, timelyTo_zero _ _, Below.refl _ _⟩
  case round =>
    obtain ⟨k, hk, rfl, hok, ht, hb⟩ := hrel
    have HOK := hideIt hok
    have HT := hideIt ht
    have HB := hideIt hb
    clear hok ht hb
    by_cases hkl : k < ord.length
    · obtain ⟨b, off, rfl, hcell⟩ := HV.out wr HB.out k hkl
      have HM := hideIt (List.getElem_mem hkl)
      obtain ⟨z, hz⟩ : ∃ z, ord[k] = z := ⟨_, rfl⟩
      have HZ := hideIt hz
      rw [hz] at hcell HM
      clear hz
      by_cases h1 : z < 0
      · have h1' : decide (z < 0) = true := by simpa using h1
        go_wp2
        go_ret
        exact toldNo (fun h => absurd (h.range _ HM.out).1 (by omega)) HB.out
      · have h1' : decide (z < 0) = false := by simpa using h1
        by_cases h2 : (ops.length : Int) ≤ z
        · have h2' : decide ((ops.length : Int) ≤ z) = true := by simpa using h2
          go_wp2
          go_ret
          exact toldNo (fun h => absurd (h.range _ HM.out).2 (by omega)) HB.out
        · have h2' : decide ((ops.length : Int) ≤ z) = false := by simpa using h2
          obtain ⟨n, rfl⟩ : ∃ m : Nat, z = m := ⟨z.toNat, by omega⟩
          have hn : n < ops.length := by omega
          have HON : Hid (opI ops ord[k] = ops[n]) := hideIt (by rw [HZ.out]; unfold opI; rw [Int.toNat_natCast]; exact opN_at hn)
          go_wp2
          go_loopw [35] (fun i wy => ∃ m : Nat, m ≤ k ∧ i = .int .i64 m ∧ TimelyAt ops ord k m ∧ ApartAt ord k m ∧ Below w.heap.size w wy) (fun i _ => k - (intOf i).toNat)
          case atStart => exact ⟨0, by omega, rfl, timelyAt_zero _ _ _, fun _ i _ h => by omega, HB.out⟩
          case round =>
            obtain ⟨m, hm', rfl, hta, haa, hby⟩ := hrel
            have HTA := hideIt hta
            have HAA := hideIt haa
            have HBY := hideIt hby
            clear hta haa hby
            by_cases hmk : m < k
            · obtain ⟨b2, off2, he2, hcell2⟩ := HV.out _ HBY.out m (by omega)
              obtain ⟨rfl, rfl⟩ : b2 = b ∧ off2 = off := by simp at he2; exact ⟨he2.1.symm, he2.2.symm⟩
              clear he2
              have hr2 := HOK.out.1 ord[m] (by
                have : ord[m] = (ord.take k)[m]'(by simp; omega) := by simp
                rw [this]; exact List.getElem_mem _)
              obtain ⟨n2, hon2⟩ : ∃ n2 : Nat, ord[m] = n2 := ⟨ord[m].toNat, by omega⟩
              have hn2 : n2 < ops.length := by omega
              have hop2 : opI ops ord[m] = ops[n2] := by rw [hon2]; unfold opI; rw [Int.toNat_natCast]; exact opN_at hn2
              have HON2 := hideIt hon2
              rw [hon2] at hcell2
              obtain ⟨bo, offo, rfl, hopn⟩ := HOP.out n hn
              obtain ⟨bo2, offo2, he2, hopn2⟩ := HOP.out n2 hn2
              obtain ⟨rfl, rfl⟩ : bo2 = bo ∧ offo2 = offo := by simp at he2; exact ⟨he2.1.symm, he2.2.symm⟩
              clear he2 hr2
              obtain ⟨c0, c1, c2, c3, c4, c5, c6, c7⟩ := hopn _ HBY.out
              obtain ⟨d0, d1, d2, d3, d4, d5, d6, d7⟩ := hopn2 _ HBY.out
              have HX : Hid (∀ w2, Below wr.drew.heap.size wr.drew w2 → OpAt w2 bo2 (offo2 + n * 8) ops[n]) := hideIt (fun w2 h2 => hopn w2 (belJ (HBY.out.drew) h2))
              have HY : Hid (∀ w2, Below wr.drew.heap.size wr.drew w2 → OpAt w2 bo2 (offo2 + n2 * 8) ops[n2]) := hideIt (fun w2 h2 => hopn2 w2 (belJ (HBY.out.drew) h2))
              clear hopn hopn2
              have HBE : Hid (beforeB (opI ops ord[k]) (opI ops ord[m]) = beforeB ops[n] ops[n2]) := hideIt (by rw [HON.out, hop2])
              have HC := hideIt (fun W => refBefore_any ops[n] ops[n2] W)
              unfold Opn.agg at HC
              clear hop2 hon2
              have i1 : (0 : Int) ≤ (n : Int) := by omega
              have i2 : (n : Int) < (ops.length : Int) := by omega
              have i3 : (0 : Int) ≤ (n2 : Int) := by omega
              have i4 : (n2 : Int) < (ops.length : Int) := by omega
              by_cases heq : n2 = n
              · have heq' : ((n2 : Int) == (n : Int)) = true := by simp [heq]
                have HN : Hid (¬ ShowsM o ops ord) := hideIt (fun h => okTo_not_apart (ops := ops) hkl hmk (by rw [HON2.out, HZ.out, heq]) ⟨h.range, h.once⟩)
                clear heq
                go_wp2_with fail
                go_quiet (fail)
                go_wp2
                go_ret
                exact toldNo HN.out (below_drewN HBY.out _)
              · have heq' : ((n2 : Int) == (n : Int)) = false := by simp; omega
                have HNE : Hid (ord[m] ≠ ord[k]) := hideIt (fun e => heq (by rw [HON2.out, HZ.out] at e; omega))
                clear heq
                cases hbe : beforeB ops[n] ops[n2]
                · rw [hbe] at HC HBE
                  clear hbe
                  go_wp2_with fail
                  go_region_held3 (fun w' => w'.cell? ⟨bo2, offo2 + n * 8, none⟩ = some (.int .i64 ops[n].p) ∧ w'.cell? ⟨bo2, offo2 + n * 8 + 1, none⟩ = some (.int .i64 ops[n].k) ∧ w'.cell? ⟨bo2, offo2 + n * 8 + 2, none⟩ = some (.int .i64 ops[n].d) ∧ w'.cell? ⟨bo2, offo2 + n * 8 + 3, none⟩ = some (.int .i64 ops[n].a) ∧ w'.cell? ⟨bo2, offo2 + n * 8 + 4, none⟩ = some (.int .i64 ops[n].b) ∧ w'.cell? ⟨bo2, offo2 + n * 8 + 5, none⟩ = some (.int .i64 ops[n].r) ∧ w'.cell? ⟨bo2, offo2 + n * 8 + 6, none⟩ = some (.int .i64 ops[n].c) ∧ w'.cell? ⟨bo2, offo2 + n * 8 + 7, none⟩ = some (.int .i64 ops[n].e) ∧ w'.cell? ⟨bo2, offo2 + n2 * 8, none⟩ = some (.int .i64 ops[n2].p) ∧ w'.cell? ⟨bo2, offo2 + n2 * 8 + 1, none⟩ = some (.int .i64 ops[n2].k) ∧ w'.cell? ⟨bo2, offo2 + n2 * 8 + 2, none⟩ = some (.int .i64 ops[n2].d) ∧ w'.cell? ⟨bo2, offo2 + n2 * 8 + 3, none⟩ = some (.int .i64 ops[n2].a) ∧ w'.cell? ⟨bo2, offo2 + n2 * 8 + 4, none⟩ = some (.int .i64 ops[n2].b) ∧ w'.cell? ⟨bo2, offo2 + n2 * 8 + 5, none⟩ = some (.int .i64 ops[n2].r) ∧ w'.cell? ⟨bo2, offo2 + n2 * 8 + 6, none⟩ = some (.int .i64 ops[n2].c) ∧ w'.cell? ⟨bo2, offo2 + n2 * 8 + 7, none⟩ = some (.int .i64 ops[n2].e)) (go_keep)
                    (first | (go_at_call 23; refine (HC.out _).mono ?_; rintro e w2 ⟨rfl, hb2⟩; have HB2 := hideIt hb2; obtain ⟨p0, p1, p2, p3, p4, p5, p6, p7⟩ := HX.out w2 hb2; obtain ⟨q0, q1, q2, q3, q4, q5, q6, q7⟩ := HY.out w2 hb2; clear hb2))
                  go_wp2
                  go_roundw
                  case rel => exact ⟨m + 1, by omega, by go_num, HTA.out.succ hkl hmk HBE.out, HAA.out.succ hkl hmk HNE.out, belJ HBY.out.drew HB2.out⟩
                  case measure => simp [intOf]; omega
                · rw [hbe] at HC HBE
                  clear hbe
                  go_wp2_with fail
                  go_region_held3 (fun w' => w'.cell? ⟨bo2, offo2 + n * 8, none⟩ = some (.int .i64 ops[n].p) ∧ w'.cell? ⟨bo2, offo2 + n * 8 + 1, none⟩ = some (.int .i64 ops[n].k) ∧ w'.cell? ⟨bo2, offo2 + n * 8 + 2, none⟩ = some (.int .i64 ops[n].d) ∧ w'.cell? ⟨bo2, offo2 + n * 8 + 3, none⟩ = some (.int .i64 ops[n].a) ∧ w'.cell? ⟨bo2, offo2 + n * 8 + 4, none⟩ = some (.int .i64 ops[n].b) ∧ w'.cell? ⟨bo2, offo2 + n * 8 + 5, none⟩ = some (.int .i64 ops[n].r) ∧ w'.cell? ⟨bo2, offo2 + n * 8 + 6, none⟩ = some (.int .i64 ops[n].c) ∧ w'.cell? ⟨bo2, offo2 + n * 8 + 7, none⟩ = some (.int .i64 ops[n].e) ∧ w'.cell? ⟨bo2, offo2 + n2 * 8, none⟩ = some (.int .i64 ops[n2].p) ∧ w'.cell? ⟨bo2, offo2 + n2 * 8 + 1, none⟩ = some (.int .i64 ops[n2].k) ∧ w'.cell? ⟨bo2, offo2 + n2 * 8 + 2, none⟩ = some (.int .i64 ops[n2].d) ∧ w'.cell? ⟨bo2, offo2 + n2 * 8 + 3, none⟩ = some (.int .i64 ops[n2].a) ∧ w'.cell? ⟨bo2, offo2 + n2 * 8 + 4, none⟩ = some (.int .i64 ops[n2].b) ∧ w'.cell? ⟨bo2, offo2 + n2 * 8 + 5, none⟩ = some (.int .i64 ops[n2].r) ∧ w'.cell? ⟨bo2, offo2 + n2 * 8 + 6, none⟩ = some (.int .i64 ops[n2].c) ∧ w'.cell? ⟨bo2, offo2 + n2 * 8 + 7, none⟩ = some (.int .i64 ops[n2].e)) (go_keep)
                    (first | (go_at_call 23; refine (HC.out _).mono ?_; rintro e w2 ⟨rfl, hb2⟩; have HB2 := hideIt hb2; obtain ⟨p0, p1, p2, p3, p4, p5, p6, p7⟩ := HX.out w2 hb2; obtain ⟨q0, q1, q2, q3, q4, q5, q6, q7⟩ := HY.out w2 hb2; clear hb2))
                  go_wp2
                  go_ret
                  exact toldNo (fun h => by have := h.timely k hkl m hmk; rw [HBE.out] at this; cases this) (belJ HBY.out.drew HB2.out)
            · have HE : Hid (TimelyTo ops ord (k + 1) ∧ OkTo ops (ord.take (k + 1))) := hideIt (by
                have e : m = k := by omega
                exact ⟨HT.out.succ (e ▸ HTA.out), okTo_step HOK.out hkl (by rw [HZ.out]; omega) (e ▸ HAA.out)⟩)
              go_wp2
              go_roundw
              case rel => exact ⟨k + 1, by omega, by go_num, HE.out.2, HE.out.1, HBY.out⟩
              case measure => simp [intOf]; omega
    · have HE : Hid (TimelyTo ops ord ord.length ∧ OkTo ops ord) := hideIt (by
        have e : k = ord.length := by omega
        subst e
        exact ⟨HT.out, by have := HOK.out; rwa [List.take_length] at this⟩)
      clear HT HOK
      go_wp2
      go_loopw [57] (fun i wy => ∃ m : Nat, m ≤ ops.length ∧ i = .int .i64 m ∧ WholeTo ops ord m ∧ Below w.heap.size w wy) (fun i _ => ops.length - (intOf i).toNat)
      case atStart => exact ⟨0, by omega, rfl, fun n _ h => by omega, HB.out⟩
      case round =>
        obtain ⟨m, hm', rfl, hwt, hby⟩ := hrel
        have HWT := hideIt hwt
        have HBY := hideIt hby
        clear hwt hby
        by_cases hml : m < ops.length
        · obtain ⟨bo, offo, rfl, hopn⟩ := HOP.out m hml
          obtain ⟨c0, c1, c2, c3, c4, c5, c6, c7⟩ := hopn _ HBY.out
          have HB2 := hideIt (belA HBY.out ops[m].obj)
          unfold Opn.obj at HB2
          clear hopn
          go_wp2
          go_loop [13, 64] (fun x i => ∃ q : Nat, q ≤ ord.length ∧ i = .int .i64 q ∧ x = .bool (inB2 ord m q)) (fun _ i => ord.length - (intOf i).toNat)
          case atStart => exact ⟨0, by omega, rfl, rfl⟩
          case round =>
            obtain ⟨q, hq, rfl, rfl⟩ := hrel
            by_cases hql : q < ord.length
            · obtain ⟨b, off, rfl, hcell⟩ := HV.out _ HB2.out q hql
              have HS := hideIt (inB2_succ (i := m) hql)
              cases hin : inB2 ord m q
              · rw [hin] at HS
                go_wp2
                go_round
                case rel => exact ⟨q + 1, by omega, by go_num, by rw [HS.out]; rfl⟩
                case measure => simp [intOf]; omega
              · rw [hin] at HS
                go_wp2
                go_round
                case rel => exact ⟨q + 1, by omega, by go_num, by rw [HS.out]; rfl⟩
                case measure => simp [intOf]; omega
            · have HQ : Hid (inB2 ord m q = ord.contains (m : Int)) := hideIt (by unfold inB2; rw [List.take_of_length_le (by omega)])
              cases hin : inB2 ord m q
              · have HNM : Hid ((m : Int) ∉ ord) := hideIt (by rw [hin] at HQ; simpa using HQ.out.symm)
                by_cases he : 0 ≤ ops[m].e
                · have he' : decide (0 ≤ ops[m].e) = true := by simpa using he
                  have HN : Hid (¬ ShowsM o ops ord) := hideIt (fun h => HNM.out (h.whole m hml (by rw [opN_at hml]; exact he)))
                  go_wp2
                  go_ret
                  exact toldNo HN.out HB2.out
                · have he' : decide (0 ≤ ops[m].e) = false := by simpa using he
                  have HW2 := hideIt (wholeTo_succ HWT.out hml (.inr he))
                  go_wp2
                  go_roundw
                  case rel => exact ⟨m + 1, by omega, by go_num, HW2.out, HB2.out⟩
                  case measure => simp [intOf]; omega
              · have HW2 := hideIt (wholeTo_succ HWT.out hml (.inl (by rw [hin] at HQ; simpa using HQ.out.symm)))
                go_wp2
                go_roundw
                case rel => exact ⟨m + 1, by omega, by go_num, HW2.out, HB2.out⟩
                case measure => simp [intOf]; omega
        · have HWH : Hid (WholeP ops ord) := hideIt ⟨HE.out.2, fun n hn he => HWT.out n hn (by omega) he⟩
          go_wp2_with fail
          refine (HR.out _ HBY.out).mono ?_
          rintro e w4 ⟨z, rfl, hrt, hb4⟩
          have HB4 := hideIt (belJ HBY.out hb4)
          have HS := hideIt (showsM_of HWH.out HE.out.1 hrt)
          have HZ : Hid (decide (z < 0) = (z == -1)) := hideIt (by
            rcases hrt with ⟨k, _, _, _, rfl⟩ | ⟨_, rfl⟩
            · have h1 : ¬ ((k : Int) < 0) := by omega
              have h2 : ¬ ((k : Int) = -1) := by omega
              simp [h1, h2]
            · rfl)
          clear hrt hb4
          cases hzz : decide (z < 0)
          · rw [hzz] at HZ
            go_wp2
            go_ret
            exact toldNo (fun h => by have := HS.out.2 h; rw [← HZ.out] at this; cases this) HB4.out
          · rw [hzz] at HZ
            go_wp2
            go_ret
            exact toldYes (HS.out.1 HZ.out.symm) HB4.out

end Go.Proofs.YtndogemgjjgbgaaDoor
