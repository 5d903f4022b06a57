/-
  Package linear's judge and Check: walked.
  What the search tells of two ops: what was written is read, and nothing else.
  Package linear's Check, and the statements' own told: walked.
-/
import Derived.Test.YtfojmbbhcmeejaaDoorVerdictW
import Derived.Test.YtfojmbbhcmeejaaDoorLcA
import Derived.Laws.EntriesVeiled
namespace Go.Proofs.YtfojmbbhcmeejaaDoor
open Go.RowKit

def srB (o : Int) (ops : List Opn) (bud : Nat) : Sr := ⟨o, ops, beforeB, bud, nameB⟩
/-- What Check tells. -/
def JTold (o bud : Int) (ops : List Opn) (w : World) (e : Ending) (w' : World) : Prop :=
  Below w.heap.size w w' ∧ ((∃ n, n ≠ 0 ∧ LcTold o bud ops n ∧ e = .returned (.tuple #[.agg #[.int .i64 0, .slice none 0 0, .int .i64 0], toldV n])) ∨
    (LcTold o bud ops 0 ∧ ∃ ov, e = .returned (.tuple #[.agg #[.int .i64 ((searchM (srB o ops bud.toNat)).code : Int), ov, .int .i64 ((searchM (srB o ops bud.toNat)).ent.length : Int)], .nilIface]) ∧
      ((searchM (srB o ops bud.toNat)).code = 1 → w'.ownsRow w.heap.size 3 1 ov (searchM (srB o ops bud.toNat)).ord.length (ordV (searchM (srB o ops bud.toNat)).ord)) ∧ ((searchM (srB o ops bud.toNat)).code ≠ 1 → ov = .slice none 0 0)))

theorem ownsRow_base {w : World} {base base' : Nat} {e : TypeId} {size : Nat} {v : Value} {n : Nat} {xs : List Value} (h : w.ownsRow base e size v n xs) (hb : base' ≤ base) : w.ownsRow base' e size v n xs := by
  obtain ⟨hl, h | ⟨g, cap, cur, rfl, h0, h1⟩⟩ := h
  · exact ⟨hl, .inl h⟩
  · exact ⟨hl, .inr ⟨g, cap, cur, rfl, by omega, h1⟩⟩
theorem pre_mk {o : Int} {ops : List Opn} {bud : Nat} {u : Value} {w1 : World} {b0 : Nat} (hops : OpsIn w1 u ops) (hK : KnownAt w1) (hb0 : b0 ≤ w1.heap.size) (hopsb : ∀ a n c, u = .slice (some a) n c → 0 < n → a.block < b0) (hpos : 0 < b0) :
    PreV o ops bud u b0 (w1.heap.size + 1) w1.heap.size ((w1.alloc (.map #[] 0)).alloc (.cells #[.int .i64 o, u, .int .i64 bud, .func (.func 44) #[] #[], .slice none 0 0, .int .u64 0, .map (some w1.heap.size), .int .u64 0, .slice none 0 0, .slice none 0 0, .slice none 0 0, .slice none 0 0, .slice none 0 0, .slice none 0 0, .slice none 0 0, .slice none 0 0, .slice none 0 0, .slice none 0 0] 100)) := by
  have hb : Below w1.heap.size w1 ((w1.alloc (.map #[] 0)).alloc (.cells #[.int .i64 o, u, .int .i64 bud, .func (.func 44) #[] #[], .slice none 0 0, .int .u64 0, .map (some w1.heap.size), .int .u64 0, .slice none 0 0, .slice none 0 0, .slice none 0 0, .slice none 0 0, .slice none 0 0, .slice none 0 0, .slice none 0 0, .slice none 0 0, .slice none 0 0, .slice none 0 0] 100)) := belA (belA (Below.refl _ _) _) _
  refine ⟨?_, ?_, hops.below hb, hopsb, hK.below (by omega) hb, hpos, by omega, hb0⟩
  · have := heap_alloc_new (w1.alloc (.map #[] 0)) (.cells #[.int .i64 o, u, .int .i64 bud, .func (.func 44) #[] #[], .slice none 0 0, .int .u64 0, .map (some w1.heap.size), .int .u64 0, .slice none 0 0, .slice none 0 0, .slice none 0 0, .slice none 0 0, .slice none 0 0, .slice none 0 0, .slice none 0 0, .slice none 0 0, .slice none 0 0, .slice none 0 0] 100)
    simpa [blkG, nilS, fnB] using this
  · refine (setS_made w1).same (Below.heap_alloc _ _ _ (by simp))

set_option maxRecDepth 100000 in
set_option maxHeartbeats 4000000 in
theorem judge_any (o bud : Int) (ops : List Opn) (u : Value) (w : World) (hlen : ops.length ≤ 60) (hl : OpsIn w u ops) (hK : KnownAt w) :
    Calls Tryd.prog 35 #[.int .i64 o, u, .int .i64 bud, .func (.func 44) #[] #[]] w fun e w' => JTold o bud ops w e w' := by
  have hpos : 0 < w.heap.size := World.block_lt_of_cell? w ⟨0, 0 * 13 + 0, none⟩ (hK 0 0 (by decide) (by decide))
  have HO := hideIt (isObject_any o)
  have hb1 : Below w.heap.size w (w.alloc (.cells #[.int .i64 0, .slice none 0 0, .int .i64 0] 43)) := belA (Below.refl _ _) _
  have HC : Hid (Calls Tryd.prog 56 #[.int .i64 o, u] (w.alloc (.cells #[.int .i64 0, .slice none 0 0, .int .i64 0] 43)) fun e w' => ∃ n, e = .returned (toldV n) ∧ CkTold o ops n ∧ Below (w.alloc (.cells #[.int .i64 0, .slice none 0 0, .int .i64 0] 43)).heap.size (w.alloc (.cells #[.int .i64 0, .slice none 0 0, .int .i64 0] 43)) w') := hideIt (linCheck_any o ops u _ hlen (hl.below hb1) (hK.below hpos hb1))
  have hmm := @run_makeMap Tryd.prog
  have HL := hideIt hl
  have HK := hideIt hK
  obtain ⟨ua, ucap, rfl, huc, hum, hu3⟩ := hl
  have HB1 := hideIt hb1
  clear hK hu3 hb1
  cases ho : objB o
  · rw [ho] at HO
    have HX : Hid (JTold o bud ops w (.returned (.tuple #[.agg #[.int .i64 0, .slice none 0 0, .int .i64 0], toldV 1])) (w.alloc (.cells #[.int .i64 0, .slice none 0 0, .int .i64 0] 43))) := hideIt ⟨HB1.out, .inl ⟨1, by decide, .inl ⟨ho, rfl⟩, rfl⟩⟩
    clear ho
    go_enter Tryd.func35, Tryd.ntmps35
    go_wp2_with (go_at_call 55; refine (HO.out _).mono ?_; rintro e w1 ⟨rfl, rfl⟩)
    refine bodyPost_ret (v := .tuple #[.agg #[.int .i64 0, .slice none 0 0, .int .i64 0], .iface 23 (.int .i64 1)]) (by simp [results, Tryd.results35, go_sem]) rfl ?_
    have := HX.out
    rw [toldV_some (by decide : (1 : Int) ≠ 0)] at this
    exact this
  · rw [ho] at HO
    have HOO := hideIt ho
    clear ho
    by_cases hbd : bud < 0 ∨ 1000000 < bud
    · have HX : Hid (JTold o bud ops w (.returned (.tuple #[.agg #[.int .i64 0, .slice none 0 0, .int .i64 0], toldV 2])) (w.alloc (.cells #[.int .i64 0, .slice none 0 0, .int .i64 0] 43))) := hideIt ⟨HB1.out, .inl ⟨2, by decide, .inr (.inl ⟨HOO.out, hbd, rfl⟩), rfl⟩⟩
      rw [toldV_some (by decide : (2 : Int) ≠ 0)] at HX
      by_cases h0 : bud < 0
      · have h0' : decide (bud < 0) = true := by simpa using h0
        clear hbd
        go_enter Tryd.func35, Tryd.ntmps35
        go_wp2_with (go_at_call 55; refine (HO.out _).mono ?_; rintro e w1 ⟨rfl, rfl⟩)
        exact bodyPost_ret (v := .tuple #[.agg #[.int .i64 0, .slice none 0 0, .int .i64 0], .iface 23 (.int .i64 2)]) (by simp [results, Tryd.results35, go_sem]) rfl HX.out
      · have h0' : decide (bud < 0) = false := by simpa using h0
        have h1' : decide (1000000 < bud) = true := by simp; omega
        clear hbd
        go_enter Tryd.func35, Tryd.ntmps35
        go_wp2_with (go_at_call 55; refine (HO.out _).mono ?_; rintro e w1 ⟨rfl, rfl⟩)
        exact bodyPost_ret (v := .tuple #[.agg #[.int .i64 0, .slice none 0 0, .int .i64 0], .iface 23 (.int .i64 2)]) (by simp [results, Tryd.results35, go_sem]) rfl HX.out
    · have h0' : decide (bud < 0) = false := by simp; omega
      have h1' : decide (1000000 < bud) = false := by simp; omega
      obtain ⟨bn, rfl⟩ : ∃ bn : Nat, bud = bn := ⟨bud.toNat, by omega⟩
      have hbn : bn ≤ 1000000 := by omega
      have HLC : Hid (∀ n, CkTold o ops n → LcTold o bn ops n) := hideIt (fun n h => .inr (.inr ⟨HOO.out, by omega, by omega, h⟩))
      clear hbd
      go_enter Tryd.func35, Tryd.ntmps35
      go_wp2_with (first | (go_at_call 55; refine (HO.out _).mono ?_; rintro e w1 ⟨rfl, rfl⟩) | fail)
      refine HC.out.mono ?_
      rintro e w1 ⟨n, rfl, hct, hb1⟩
      have hbw := belJ HB1.out hb1
      have hR : w1.heap[w.heap.size]? = some z33 := (hb1.block w.heap.size (by simp)).trans (heap_alloc_new w _)
      have t0 : w1.cell? ⟨w.heap.size, 0, none⟩ = some (.int .i64 0) := cell_of_row w1 _ _ _ 43 (0, 0) hR
      have t1 : w1.cell? ⟨w.heap.size, 1, none⟩ = some (.slice none 0 0) := cell_of_row w1 _ _ _ 43 (0, 0) hR
      have t2 : w1.cell? ⟨w.heap.size, 2, none⟩ = some (.int .i64 0) := cell_of_row w1 _ _ _ 43 (0, 0) hR
      have t3 : ∀ i, w1.frozen? ⟨w.heap.size, i, none⟩ = false := fun i => frozen_of_row w1 _ _ _ 43 hR
      have hlt := lt_of_heap hR
      have HR := hideIt hR
      have HBW := hideIt hbw
      have HCT := hideIt hct
      clear hct hb1 hbw hR
      by_cases hz : n = 0
      · subst hz
        rw [toldV_zero]
        have ht := ckTold_told HCT.out
        have hpre := pre_mk (o := o) (bud := bn) (b0 := w1.heap.size) (HL.out.below HBW.out) (HK.out.below hpos HBW.out) (Nat.le_refl _) (fun a m c e h0 => by
          obtain ⟨a', cap', e', _, _, ho⟩ := HL.out.below HBW.out
          rcases ho with ho | ⟨b, off, e2, hlt, _⟩
          · rw [e'] at e; simp at e; rw [ho] at e; simp at e; omega
          · rw [e', e2] at e; simp at e; rw [← e.1]; exact hlt) (Nat.lt_of_lt_of_le hpos HBW.out.size)
        have HV := hideIt (verdict_any o ops bn _ w1.heap.size (w1.heap.size + 1) w1.heap.size _ hpre hlen hbn (told_keysN ht) (told_nums ht))
        have hpb : Below w1.heap.size w1 ((w1.alloc (.map #[] 0)).alloc (.cells #[.int .i64 o, .slice ua ops.length ucap, .int .i64 bn, .func (.func 44) #[] #[], .slice none 0 0, .int .u64 0, .map (some w1.heap.size), .int .u64 0, .slice none 0 0, .slice none 0 0, .slice none 0 0, .slice none 0 0, .slice none 0 0, .slice none 0 0, .slice none 0 0, .slice none 0 0, .slice none 0 0, .slice none 0 0] 100)) := belA (belA (Below.refl _ _) _) _
        have HPB := hideIt hpb
        clear ht hpre hpb
        go_wp2_with fail
        refine HV.out.mono ?_
        rintro e w2 ⟨ov, rfl, hb2, ho1, ho2⟩
        have hbb := HPB.out.trans hb2
        have hR2 : w2.heap[w.heap.size]? = some z33 := (hbb.block w.heap.size hlt).trans HR.out
        have s0 : w2.cell? ⟨w.heap.size, 0, none⟩ = some (.int .i64 0) := cell_of_row w2 _ _ _ 43 (0, 0) hR2
        have s1 : w2.cell? ⟨w.heap.size, 1, none⟩ = some (.slice none 0 0) := cell_of_row w2 _ _ _ 43 (0, 0) hR2
        have s2 : w2.cell? ⟨w.heap.size, 2, none⟩ = some (.int .i64 0) := cell_of_row w2 _ _ _ 43 (0, 0) hR2
        have s3 : ∀ i, w2.frozen? ⟨w.heap.size, i, none⟩ = false := fun i => frozen_of_row w2 _ _ _ 43 hR2
        have hov : ∃ a l c, ov = .slice a l c := by
          by_cases h1 : (searchM ⟨o, ops, beforeB, bn, nameB⟩).code = 1
          · obtain ⟨a, c, e⟩ := ownsRow_slice (ho1 h1); exact ⟨a, _, c, e⟩
          · exact ⟨_, _, _, ho2 h1⟩
        have HX : Hid (JTold o bn ops w (.returned (.tuple #[.agg #[.int .i64 ((searchM ⟨o, ops, beforeB, bn, nameB⟩).code : Int), ov, .int .i64 ((searchM ⟨o, ops, beforeB, bn, nameB⟩).ent.length : Int)], .nilIface])) (((w2.setCell ⟨w.heap.size, 0, none⟩ (.int .i64 ((searchM ⟨o, ops, beforeB, bn, nameB⟩).code : Int))).setCell ⟨w.heap.size, 1, none⟩ ov).setCell ⟨w.heap.size, 2, none⟩ (.int .i64 ((searchM ⟨o, ops, beforeB, bn, nameB⟩).ent.length : Int)))) := hideIt (by
          refine ⟨(((HBW.out.trans (hbb.mono HBW.out.size)).setCell (p := ⟨w.heap.size, 0, none⟩) (Nat.le_refl _) _).setCell (p := ⟨w.heap.size, 1, none⟩) (Nat.le_refl _) _).setCell (p := ⟨w.heap.size, 2, none⟩) (Nat.le_refl _) _, .inr ⟨HLC.out 0 HCT.out, ov, rfl, fun hc => ?_, ho2⟩⟩
          have hrow := ho1 hc
          have n2 := row_off hrow hR2 (by decide)
          exact ownsRow_base (ownsRow_setCell_other (ownsRow_setCell_other (ownsRow_setCell_other hrow n2 _) n2 _) n2 _) (by omega))
        obtain ⟨va, vl, vc, rfl⟩ := hov
        generalize ((searchM ⟨o, ops, beforeB, bn, nameB⟩).code : Int) = xc at HX ⊢
        generalize ((searchM ⟨o, ops, beforeB, bn, nameB⟩).ent.length : Int) = xe at HX ⊢
        clear ho1 ho2 hbb hb2 hR2 t0 t1 t2 t3
        go_wp2
        exact bodyPost_ret (v := .tuple #[.agg #[.int .i64 xc, .slice va vl vc, .int .i64 xe], .nilIface]) (by simp [results, Tryd.results35, go_sem, s0, s1, s2]) rfl HX.out
      · have HX : Hid (JTold o bn ops w (.returned (.tuple #[.agg #[.int .i64 0, .slice none 0 0, .int .i64 0], toldV n])) (((w1.setCell ⟨w.heap.size, 0, none⟩ (.int .i64 0)).setCell ⟨w.heap.size, 1, none⟩ (.slice none 0 0)).setCell ⟨w.heap.size, 2, none⟩ (.int .i64 0))) :=
          hideIt ⟨((HBW.out.setCell (p := ⟨w.heap.size, 0, none⟩) (Nat.le_refl _) _).setCell (p := ⟨w.heap.size, 1, none⟩) (Nat.le_refl _) _).setCell (p := ⟨w.heap.size, 2, none⟩) (Nat.le_refl _) _, .inl ⟨n, hz, HLC.out n HCT.out, rfl⟩⟩
        rw [toldV_some hz] at HX ⊢
        go_wp2
        exact bodyPost_ret (v := .tuple #[.agg #[.int .i64 0, .slice none 0 0, .int .i64 0], .iface 23 (.int .i64 n)]) (by simp [results, Tryd.results35, go_sem, t0, t1, t2]) rfl HX.out

end Go.Proofs.YtfojmbbhcmeejaaDoor

namespace Go.Proofs.YtfojmbbhcmeejaaDoor
open Go.RowKit

def opW : Opn := ⟨0, 0, 2, 1, 0, 0, 0, 1⟩
def opR (x : Int) : Opn := ⟨0, 0, 1, 0, 0, x, 2, 3⟩

theorem search_code (c : Sr) : (searchM c).code = 1 ∨ (searchM c).code = 2 ∨ (searchM c).code = 3 := visit_code _ _ _ _
theorem search_valid {c : Sr} (h : (searchM c).code = 1) : ∃ S, Reach c (searchM c).ord S ∧ overB c.ops (searchM c).ord = true := visit_valid _ _ _ _ Reach.start h
theorem own_srB {o : Int} {ops : List Opn} {bud : Nat} (hk : ∀ n, n < ops.length → 0 ≤ (opN ops n).k ∧ (opN ops n).k < 8) : OwnNm (srB o ops bud) := own_of_names rfl hk

theorem two_orders {x : Int} {bud : Nat} (h : (searchM (srB 1 [opW, opR x] bud)).code = 1) : (searchM (srB 1 [opW, opR x] bud)).ord = [0, 1] := by
  obtain ⟨S, hR, ho⟩ := search_valid h
  generalize (searchM (srB 1 [opW, opR x] bud)).ord = l at hR ho
  have hn := reach_nodup hR
  have hr : ∀ n ∈ l, n < 2 := reach_range hR
  have ho' : ∀ n, n < 2 → n ∈ l := fun n hn => by
    have : overB [opW, opR x] l = true := ho
    simp only [overB, List.all_eq_true] at this
    have h1 := this n (List.mem_range.2 hn)
    have h2 : ¬ (opN [opW, opR x] n).e < 0 := by
      rcases (by omega : n = 0 ∨ n = 1) with rfl | rfl
      · show ¬ (1 : Int) < 0; decide
      · show ¬ (3 : Int) < 0; decide
    simp [h2] at h1
    exact h1
  have hlen : l.length = 2 := Nat.le_antisymm (nodup_length hn hr) (by
    have := sub_length [0, 1] l (by decide) (fun y hy => ho' y (by simp at hy; omega))
    simpa using this)
  match l, hlen with
  | [a, b], _ =>
    have ha := hr a (by simp)
    have hb := hr b (by simp)
    have hab : a ≠ b := by simpa using hn
    rcases (by omega : (a = 0 ∧ b = 1) ∨ (a = 1 ∧ b = 0)) with ⟨rfl, rfl⟩ | ⟨rfl, rfl⟩
    · rfl
    · have := reach_timely hR 1 (by simp) 0 (by simp)
      have hb : beforeB opW (opR x) = false := this
      simp [beforeB, opW, opR] at hb

theorem told_yes : (searchM (srB 1 [opW, opR 1] 10)).code = 1 ∧ (searchM (srB 1 [opW, opR 1] 10)).ord.length = 2 := by
  have hc : (searchM (srB 1 [opW, opR 1] 10)).code = 1 := by
    rcases search_code (srB 1 [opW, opR 1] 10) with h | h | h
    · exact h
    · exfalso
      refine search_dead (own_srB (fun n hn => ?_)) h (shows_comp (ord := [0, 1]) ⟨?_, ?_, ?_, ?_, ?_⟩ (fun _ _ _ _ _ h => h))
      · rcases (by simp at hn; omega : n = 0 ∨ n = 1) with rfl | rfl <;> decide
      · decide
      · decide
      · intro n hn _
        rcases (by have : n < 2 := hn; omega : n = 0 ∨ n = 1) with rfl | rfl <;> decide
      · intro j hj i hi
        have hj' : j < 2 := hj
        obtain ⟨rfl, rfl⟩ : j = 1 ∧ i = 0 := by omega
        rfl
      · intro j hj
        rcases (by have : j < 2 := hj; omega : j = 0 ∨ j = 1) with rfl | rfl <;> decide
    · exfalso
      have := (visit_tree (c := srB 1 [opW, opR 1] 10) 3 _ [] [] Reach.start (by simp) (by simp [srB])).2 h
      have h3 : treeN 3 = 10 := by decide
      simp [srB, h3] at this
  exact ⟨hc, by rw [two_orders hc]; rfl⟩

theorem told_no : (searchM (srB 1 [opW, opR 2] 10)).code = 2 := by
  rcases search_code (srB 1 [opW, opR 2] 10) with h | h | h
  · exfalso
    obtain ⟨S, hR, _⟩ := search_valid h
    rw [two_orders h] at hR
    have := (reach_run hR).2 1 (by simp)
    revert this
    decide
  · exact h
  · exfalso
    have := (visit_tree (c := srB 1 [opW, opR 2] 10) 3 _ [] [] Reach.start (by simp) (by simp [srB])).2 h
    have h3 : treeN 3 = 10 := by decide
    simp [srB, h3] at this

theorem told_lc (x : Int) (hx : 0 ≤ x ∧ x ≤ 2) : LcTold 1 10 [opW, opR x] 0 := by
  refine .inr (.inr ⟨rfl, by decide, by decide, .inr (.inr ⟨.inr (.inl ⟨by simp, fun j hj => ?_, rfl⟩), ?_, rfl⟩)⟩)
  · rcases (by omega : x = 0 ∨ x = 1 ∨ x = 2) with rfl | rfl | rfl
    all_goals
      rcases (by have : j < 2 := hj; omega : j = 0 ∨ j = 1) with rfl | rfl <;> rfl
  · simp [opW, opR]; decide

end Go.Proofs.YtfojmbbhcmeejaaDoor

namespace Go.Proofs.YtfojmbbhcmeejaaDoor
open Go.RowKit

theorem JTold.wider {o bud : Int} {ops : List Opn} {w W : World} {e : Ending} {w' : World} (h : JTold o bud ops W e w') (hb : Below w.heap.size w W) : JTold o bud ops w e w' := by
  obtain ⟨h1, h2⟩ := h
  refine ⟨belJ hb h1, ?_⟩
  rcases h2 with h2 | ⟨hl, ov, he, ho1, ho2⟩
  · exact .inl h2
  · exact .inr ⟨hl, ov, he, fun hc => ownsRow_base (ho1 hc) hb.size, ho2⟩

set_option maxRecDepth 100000 in
set_option maxHeartbeats 2000000 in
theorem check_any (o bud : Int) (ops : List Opn) (u : Value) (w : World) (hlen : ops.length ≤ 60) (hl : OpsIn w u ops) (hK : KnownAt w) :
    Calls Tryd.prog 24 #[.int .i64 o, u, .int .i64 bud] w fun e w' => JTold o bud ops w e w' := by
  have hpos : 0 < w.heap.size := World.block_lt_of_cell? w ⟨0, 0 * 13 + 0, none⟩ (hK 0 0 (by decide) (by decide))
  have hb1 : Below w.heap.size w (w.alloc (.cells #[.int .i64 0, .slice none 0 0, .int .i64 0] 43)) := belA (Below.refl _ _) _
  have HC := hideIt (judge_any o bud ops u _ hlen (hl.below hb1) (hK.below hpos hb1))
  have HB1 := hideIt hb1
  clear hl hK hb1
  go_enter Tryd.func24, Tryd.ntmps24
  go_wp2_with fail
  refine HC.out.mono ?_
  intro e w2 hj
  have hb2 := hj.1
  have hR2 : w2.heap[w.heap.size]? = some z33 := (hb2.block w.heap.size (by simp)).trans (heap_alloc_new w _)
  have s0 : w2.cell? ⟨w.heap.size, 0, none⟩ = some (.int .i64 0) := cell_of_row w2 _ _ _ 43 (0, 0) hR2
  have s1 : w2.cell? ⟨w.heap.size, 1, none⟩ = some (.slice none 0 0) := cell_of_row w2 _ _ _ 43 (0, 0) hR2
  have s2 : w2.cell? ⟨w.heap.size, 2, none⟩ = some (.int .i64 0) := cell_of_row w2 _ _ _ 43 (0, 0) hR2
  have s3 : ∀ i, w2.frozen? ⟨w.heap.size, i, none⟩ = false := fun i => frozen_of_row w2 _ _ _ 43 hR2
  have hj' := hj.wider HB1.out
  have hset : ∀ x y z, Below w.heap.size w (((w2.setCell ⟨w.heap.size, 0, none⟩ x).setCell ⟨w.heap.size, 1, none⟩ y).setCell ⟨w.heap.size, 2, none⟩ z) := fun x y z =>
    ((hj'.1.setCell (p := ⟨w.heap.size, 0, none⟩) (Nat.le_refl _) _).setCell (p := ⟨w.heap.size, 1, none⟩) (Nat.le_refl _) _).setCell (p := ⟨w.heap.size, 2, none⟩) (Nat.le_refl _) _
  obtain ⟨_, ⟨n, hn, hlc, rfl⟩ | ⟨hlc, ov, rfl, ho1, ho2⟩⟩ := hj'
  · have HX : Hid (JTold o bud ops w (.returned (.tuple #[.agg #[.int .i64 0, .slice none 0 0, .int .i64 0], toldV n])) (((w2.setCell ⟨w.heap.size, 0, none⟩ (.int .i64 0)).setCell ⟨w.heap.size, 1, none⟩ (.slice none 0 0)).setCell ⟨w.heap.size, 2, none⟩ (.int .i64 0))) := hideIt ⟨hset _ _ _, .inl ⟨n, hn, hlc, rfl⟩⟩
    rw [toldV_some hn] at HX ⊢
    clear hj hb2 hset hR2
    go_wp2
    exact bodyPost_ret (v := .tuple #[.agg #[.int .i64 0, .slice none 0 0, .int .i64 0], .iface 23 (.int .i64 n)]) (by simp [results, Tryd.results24, go_sem, s0, s1, s2]) rfl HX.out
  · have hov : ∃ a l c, ov = .slice a l c := by
      by_cases h1 : (searchM (srB o ops bud.toNat)).code = 1
      · obtain ⟨a, c, e⟩ := ownsRow_slice (ho1 h1); exact ⟨a, _, c, e⟩
      · exact ⟨_, _, _, ho2 h1⟩
    have HX : Hid (JTold o bud ops w (.returned (.tuple #[.agg #[.int .i64 ((searchM (srB o ops bud.toNat)).code : Int), ov, .int .i64 ((searchM (srB o ops bud.toNat)).ent.length : Int)], .nilIface])) (((w2.setCell ⟨w.heap.size, 0, none⟩ (.int .i64 ((searchM (srB o ops bud.toNat)).code : Int))).setCell ⟨w.heap.size, 1, none⟩ ov).setCell ⟨w.heap.size, 2, none⟩ (.int .i64 ((searchM (srB o ops bud.toNat)).ent.length : Int)))) := hideIt (by
      refine ⟨hset _ _ _, .inr ⟨hlc, ov, rfl, fun hc => ?_, ho2⟩⟩
      have hrow := ho1 hc
      have n2 := row_off hrow hR2 (by decide)
      exact ownsRow_setCell_other (ownsRow_setCell_other (ownsRow_setCell_other hrow n2 _) n2 _) n2 _)
    obtain ⟨va, vl, vc, rfl⟩ := hov
    generalize ((searchM (srB o ops bud.toNat)).code : Int) = xc at HX ⊢
    generalize ((searchM (srB o ops bud.toNat)).ent.length : Int) = xe at HX ⊢
    clear hj hb2 hset hR2 ho1 ho2
    go_wp2
    exact bodyPost_ret (v := .tuple #[.agg #[.int .i64 xc, .slice va vl vc, .int .i64 xe], .nilIface]) (by simp [results, Tryd.results24, go_sem, s0, s1, s2]) rfl HX.out

/-- Two ops in memory. -/
theorem two_in (W : World) (x : Int) : OpsIn (W.alloc (.cells #[.int .i64 0, .int .i64 0, .int .i64 2, .int .i64 1, .int .i64 0, .int .i64 0, .int .i64 0, .int .i64 1, .int .i64 0, .int .i64 0, .int .i64 1, .int .i64 0, .int .i64 0, .int .i64 x, .int .i64 2, .int .i64 3] 48)) (.slice (some ⟨W.heap.size, 0, none⟩) 2 2) [opW, opR x] := by
  refine ⟨_, 2, rfl, by simp, by simp [maxLen], .inr ⟨W.heap.size, 0, rfl, by simp, fun i hi => ?_⟩⟩
  rcases (by have : i < 2 := hi; omega : i = 0 ∨ i = 1) with rfl | rfl
  · exact ⟨by simp [opW], by simp [opW], by simp [opW], by simp [opW], by simp [opW], by simp [opW], by simp [opW], by simp [opW]⟩
  · exact ⟨by simp [opR], by simp [opR], by simp [opR], by simp [opR], by simp [opR], by simp [opR], by simp [opR], by simp [opR]⟩

/-- What Check tells of two ops. -/
theorem check_two (W : World) (x : Int) (hx : 0 ≤ x ∧ x ≤ 2) (hK : KnownAt W) :
    Calls Tryd.prog 24 #[.int .i64 1, .slice (some ⟨W.heap.size, 0, none⟩) 2 2, .int .i64 10] (W.alloc (.cells #[.int .i64 0, .int .i64 0, .int .i64 2, .int .i64 1, .int .i64 0, .int .i64 0, .int .i64 0, .int .i64 1, .int .i64 0, .int .i64 0, .int .i64 1, .int .i64 0, .int .i64 0, .int .i64 x, .int .i64 2, .int .i64 3] 48)) fun e w' =>
      ∃ a l c xe, e = .returned (.tuple #[.agg #[.int .i64 ((searchM (srB 1 [opW, opR x] 10)).code : Int), .slice a l c, .int .i64 xe], .nilIface]) ∧ ((searchM (srB 1 [opW, opR x] 10)).code = 1 → l = (searchM (srB 1 [opW, opR x] 10)).ord.length) ∧ Below W.heap.size W w' := by
  have hpos : 0 < W.heap.size := World.block_lt_of_cell? W ⟨0, 0 * 13 + 0, none⟩ (hK 0 0 (by decide) (by decide))
  refine (check_any 1 10 [opW, opR x] _ _ (by simp) (two_in W x) (hK.below hpos (belA (Below.refl _ _) _))).mono fun e w' hj => ?_
  obtain ⟨hb, ⟨n, hn, hlc, _⟩ | ⟨hlc, ov, he, ho1, ho2⟩⟩ := hj
  · exact absurd (lcTold_one hlc (told_lc x hx)) hn
  · have hb' := belJ (belA (Below.refl _ _) _) hb
    by_cases h1 : (searchM (srB 1 [opW, opR x] 10)).code = 1
    · obtain ⟨a, c, e⟩ := ownsRow_slice (ho1 h1)
      subst e
      exact ⟨a, _, c, _, he, fun _ => rfl, hb'⟩
    · have := ho2 h1
      subst this
      exact ⟨none, 0, 0, _, he, fun e => absurd e h1, hb'⟩

theorem check_yes (W : World) (hK : KnownAt W) :
    Calls Tryd.prog 24 #[.int .i64 1, .slice (some ⟨W.heap.size, 0, none⟩) 2 2, .int .i64 10] (W.alloc (.cells #[.int .i64 0, .int .i64 0, .int .i64 2, .int .i64 1, .int .i64 0, .int .i64 0, .int .i64 0, .int .i64 1, .int .i64 0, .int .i64 0, .int .i64 1, .int .i64 0, .int .i64 0, .int .i64 1, .int .i64 2, .int .i64 3] 48)) fun e w' =>
      ∃ a c xe, e = .returned (.tuple #[.agg #[.int .i64 1, .slice a 2 c, .int .i64 xe], .nilIface]) ∧ Below W.heap.size W w' :=
  (check_two W 1 (by decide) hK).mono fun e w' ⟨a, l, c, xe, he, hl, hb⟩ => ⟨a, c, xe, by
    have h1 := hl told_yes.1
    rw [told_yes.2] at h1
    subst h1
    rw [he, told_yes.1]; rfl, hb⟩
theorem check_no (W : World) (hK : KnownAt W) :
    Calls Tryd.prog 24 #[.int .i64 1, .slice (some ⟨W.heap.size, 0, none⟩) 2 2, .int .i64 10] (W.alloc (.cells #[.int .i64 0, .int .i64 0, .int .i64 2, .int .i64 1, .int .i64 0, .int .i64 0, .int .i64 0, .int .i64 1, .int .i64 0, .int .i64 0, .int .i64 1, .int .i64 0, .int .i64 0, .int .i64 2, .int .i64 2, .int .i64 3] 48)) fun e w' =>
      ∃ a l c xe, e = .returned (.tuple #[.agg #[.int .i64 2, .slice a l c, .int .i64 xe], .nilIface]) ∧ Below W.heap.size W w' :=
  (check_two W 2 (by decide) hK).mono fun e w' ⟨a, l, c, xe, he, _, hb⟩ => ⟨a, l, c, xe, by rw [he, told_no]; rfl, hb⟩

theorem opAt_fz {w : World} {b : Nat} {x : Opn} (h : w.heap[b]? = some x.obj) (i : Nat) : w.frozen? ⟨b, i, none⟩ = false := frozen_of_row w b i _ 48 h

set_option maxRecDepth 100000 in
set_option maxHeartbeats 1000000 in
theorem toldK_any (w : World) (hK : KnownAt w) : Calls Tryd.prog 18 #[] w fun e w' => e = .returned (.bool true) ∧ Below w.heap.size w w' := by
  have hpos : 0 < w.heap.size := World.block_lt_of_cell? w ⟨0, 0 * 13 + 0, none⟩ (hK 0 0 (by decide) (by decide))
  have HCY : Hid (∀ W, Below w.heap.size w W → KnownAt W) := hideIt (fun W hb => hK.below hpos hb)
  clear hK
  have hb0 : Below w.heap.size w ((w.alloc (.cells #[.int .i64 0, .int .i64 0, .int .i64 2, .int .i64 1, .int .i64 0, .int .i64 0, .int .i64 0, .int .i64 1] 48)).alloc (.cells #[.int .i64 0, .int .i64 0, .int .i64 1, .int .i64 0, .int .i64 0, .int .i64 1, .int .i64 2, .int .i64 3] 48)) := belA (belA (Below.refl _ _) _) _
  have hsz : ((w.alloc (.cells #[.int .i64 0, .int .i64 0, .int .i64 2, .int .i64 1, .int .i64 0, .int .i64 0, .int .i64 0, .int .i64 1] 48)).alloc (.cells #[.int .i64 0, .int .i64 0, .int .i64 1, .int .i64 0, .int .i64 0, .int .i64 1, .int .i64 2, .int .i64 3] 48)).heap.size = w.heap.size + 1 + 1 := by simp
  have HC1 := hideIt (check_yes ((w.alloc (.cells #[.int .i64 0, .int .i64 0, .int .i64 2, .int .i64 1, .int .i64 0, .int .i64 0, .int .i64 0, .int .i64 1] 48)).alloc (.cells #[.int .i64 0, .int .i64 0, .int .i64 1, .int .i64 0, .int .i64 0, .int .i64 1, .int .i64 2, .int .i64 3] 48)) (HCY.out _ hb0))
  rw [hsz] at HC1
  have HB0 := hideIt hb0
  clear hsz hb0
  go_enter Tryd.func18, Tryd.ntmps18
  go_wp2_with fail
  refine HC1.out.mono ?_
  rintro e w2 ⟨a, c, xe, rfl, hb2⟩
  have hb0 := HB0.out
  have hb2 : Below ((w.alloc (.cells #[.int .i64 0, .int .i64 0, .int .i64 2, .int .i64 1, .int .i64 0, .int .i64 0, .int .i64 0, .int .i64 1] 48)).alloc (.cells #[.int .i64 0, .int .i64 0, .int .i64 1, .int .i64 0, .int .i64 0, .int .i64 1, .int .i64 2, .int .i64 3] 48)).heap.size ((w.alloc (.cells #[.int .i64 0, .int .i64 0, .int .i64 2, .int .i64 1, .int .i64 0, .int .i64 0, .int .i64 0, .int .i64 1] 48)).alloc (.cells #[.int .i64 0, .int .i64 0, .int .i64 1, .int .i64 0, .int .i64 0, .int .i64 1, .int .i64 2, .int .i64 3] 48)) w2 := by simpa using hb2
  have hbw := belJ hb0 hb2
  have hW : w2.heap[w.heap.size]? = some opW.obj := by
    rw [hb2.block w.heap.size (by simp; omega)]
    rw [Below.heap_alloc _ _ _ (by simp)]
    exact heap_alloc_new w _
  have hRr : w2.heap[w.heap.size + 1]? = some (opR 1).obj := by
    rw [hb2.block (w.heap.size + 1) (by simp)]
    have := heap_alloc_new (w.alloc (.cells #[.int .i64 0, .int .i64 0, .int .i64 2, .int .i64 1, .int .i64 0, .int .i64 0, .int .i64 0, .int .i64 1] 48)) (.cells #[.int .i64 0, .int .i64 0, .int .i64 1, .int .i64 0, .int .i64 0, .int .i64 1, .int .i64 2, .int .i64 3] 48)
    simpa [opR, Opn.obj] using this
  have hlt : w.heap.size + 1 < w2.heap.size := lt_of_heap hRr
  have hlt0 : w.heap.size < w2.heap.size := by omega
  have a0 : w2.cell? ⟨w.heap.size, 0, none⟩ = some (.int .i64 0) := cell_of_row w2 _ _ _ 48 (0, 0) hW
  have a1 : w2.cell? ⟨w.heap.size, 1, none⟩ = some (.int .i64 0) := cell_of_row w2 _ _ _ 48 (0, 0) hW
  have a2 : w2.cell? ⟨w.heap.size, 2, none⟩ = some (.int .i64 2) := cell_of_row w2 _ _ _ 48 (0, 0) hW
  have a3 : w2.cell? ⟨w.heap.size, 3, none⟩ = some (.int .i64 1) := cell_of_row w2 _ _ _ 48 (0, 0) hW
  have a4 : w2.cell? ⟨w.heap.size, 4, none⟩ = some (.int .i64 0) := cell_of_row w2 _ _ _ 48 (0, 0) hW
  have a5 : w2.cell? ⟨w.heap.size, 5, none⟩ = some (.int .i64 0) := cell_of_row w2 _ _ _ 48 (0, 0) hW
  have a6 : w2.cell? ⟨w.heap.size, 6, none⟩ = some (.int .i64 0) := cell_of_row w2 _ _ _ 48 (0, 0) hW
  have a7 : w2.cell? ⟨w.heap.size, 7, none⟩ = some (.int .i64 1) := cell_of_row w2 _ _ _ 48 (0, 0) hW
  have r0 : w2.cell? ⟨w.heap.size + 1, 0, none⟩ = some (.int .i64 0) := cell_of_row w2 _ _ _ 48 (0, 0) hRr
  have r1 : w2.cell? ⟨w.heap.size + 1, 1, none⟩ = some (.int .i64 0) := cell_of_row w2 _ _ _ 48 (0, 0) hRr
  have r2 : w2.cell? ⟨w.heap.size + 1, 2, none⟩ = some (.int .i64 1) := cell_of_row w2 _ _ _ 48 (0, 0) hRr
  have r3 : w2.cell? ⟨w.heap.size + 1, 3, none⟩ = some (.int .i64 0) := cell_of_row w2 _ _ _ 48 (0, 0) hRr
  have r4 : w2.cell? ⟨w.heap.size + 1, 4, none⟩ = some (.int .i64 0) := cell_of_row w2 _ _ _ 48 (0, 0) hRr
  have r5 : w2.cell? ⟨w.heap.size + 1, 5, none⟩ = some (.int .i64 1) := cell_of_row w2 _ _ _ 48 (0, 0) hRr
  have r6 : w2.cell? ⟨w.heap.size + 1, 6, none⟩ = some (.int .i64 2) := cell_of_row w2 _ _ _ 48 (0, 0) hRr
  have r7 : w2.cell? ⟨w.heap.size + 1, 7, none⟩ = some (.int .i64 3) := cell_of_row w2 _ _ _ 48 (0, 0) hRr
  have rf := opAt_fz hRr 5
  have HBW := hideIt hbw
  have HW2 := hideIt hW
  have HR2 := hideIt hRr
  clear hbw hb2 hb0 hW hRr
  have hb3 : Below w.heap.size w ((w2.setCell ⟨w.heap.size + 1, 5, none⟩ (.int .i64 2)).alloc (.cells #[.int .i64 1, .slice a 2 c, .int .i64 xe] 43)) := belA (HBW.out.setCell (p := ⟨w.heap.size + 1, 5, none⟩) (by show w.heap.size ≤ w.heap.size + 1; omega) _) _
  have hs3 : ((w2.setCell ⟨w.heap.size + 1, 5, none⟩ (.int .i64 2)).alloc (.cells #[.int .i64 1, .slice a 2 c, .int .i64 xe] 43)).heap.size = w2.heap.size + 1 := by simp [World.setCell]
  have HC2 := hideIt (check_no ((w2.setCell ⟨w.heap.size + 1, 5, none⟩ (.int .i64 2)).alloc (.cells #[.int .i64 1, .slice a 2 c, .int .i64 xe] 43)) (HCY.out _ hb3))
  rw [hs3] at HC2
  have hv3 : ((w2.setCell ⟨w.heap.size + 1, 5, none⟩ (.int .i64 2)).alloc (.cells #[.int .i64 1, .slice a 2 c, .int .i64 xe] 43)).heap[w2.heap.size]? = some (.cells #[.int .i64 1, .slice a 2 c, .int .i64 xe] 43 (0, 0)) := by
    have := heap_alloc_new (w2.setCell ⟨w.heap.size + 1, 5, none⟩ (.int .i64 2)) (.cells #[.int .i64 1, .slice a 2 c, .int .i64 xe] 43)
    simpa [World.setCell] using this
  have HV3 : Hid (∀ w4, Below (w2.heap.size + 1) ((w2.setCell ⟨w.heap.size + 1, 5, none⟩ (.int .i64 2)).alloc (.cells #[.int .i64 1, .slice a 2 c, .int .i64 xe] 43)) w4 → w4.cell? ⟨w2.heap.size, 0, none⟩ = some (.int .i64 1) ∧ w4.cell? ⟨w2.heap.size, 1, none⟩ = some (.slice a 2 c) ∧ w2.heap.size < w4.heap.size ∧ Below w.heap.size w w4) := hideIt (fun w4 hb => by
    have e := (hb.block w2.heap.size (by omega)).trans hv3
    exact ⟨cell_of_row w4 _ _ _ 43 (0, 0) e, cell_of_row w4 _ _ _ 43 (0, 0) e, lt_of_heap e, hb3.trans (hb.mono (by omega))⟩)
  clear hb3 hs3 hv3
  go_wp2_with fail
  refine HC2.out.mono ?_
  rintro e w4 ⟨av, lv, cv, xv, rfl, hb4⟩
  obtain ⟨g0, g1, g2, g3⟩ := HV3.out w4 hb4
  have HB4 := hideIt g3
  clear hb4 g3 a0 a1 a2 a3 a4 a5 a6 a7 r0 r1 r2 r3 r4 r5 r6 r7 rf
  go_wp2
  go_ret
  exact ⟨rfl, belA HB4.out _⟩

end Go.Proofs.YtfojmbbhcmeejaaDoor
