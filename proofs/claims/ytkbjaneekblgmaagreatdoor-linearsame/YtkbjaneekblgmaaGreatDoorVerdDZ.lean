/-
  The statements' own verdict, walked: what a search tells is what the document's tells.
  The statements LinearChecks and LinearSame walked: whatever the object, the ops and the budget, true.
-/
import Derived.Test.YtkbjaneekblgmaaGreatDoorLinW
import Derived.Test.YtkbjaneekblgmaaGreatDoorJudgeWZ
import Derived.Test.YtkbjaneekblgmaaGreatDoorJudgeSZ
import Derived.Test.YtkbjaneekblgmaaGreatDoorRefL
namespace Go.Proofs.YtkbjaneekblgmaaGreatDoor
open Go.RowKit

theorem ord_has {w : World} {base : Nat} {ov : Value} {ord : List Nat} (h : w.ownsRow base 3 1 ov ord.length (ordV ord)) : HasInts w ov (iL ord) := by
  have e : ordV ord = (iL ord).map (Value.int .i64) := by simp [ordV, iL]
  have : w.ownsRow base 3 1 ov (iL ord).length ((iL ord).map (Value.int .i64)) := by rw [iL_length, ← e]; exact h
  exact (rowAt_owns this).has
theorem nil_has (w : World) : HasInts w (.slice none 0 0) [] := ⟨none, 0, rfl, by decide, by decide, fun _ => rfl, .inl rfl⟩
theorem HasInts.belowD {w w' : World} {v : Value} {st : List Int} (h : HasInts w v st) (hb : Below w.heap.size w w') : HasInts w' v st := by
  obtain ⟨a, c, rfl, h1, h2, h3, h4⟩ := h
  refine ⟨a, c, rfl, h1, h2, h3, ?_⟩
  rcases h4 with h4 | ⟨b, off, e, hc⟩
  · exact .inl h4
  · exact .inr ⟨b, off, e, fun j hj => (hb.cell (p := ⟨b, off + j, none⟩) (World.block_lt_of_cell? w _ (hc j hj))).trans (hc j hj)⟩

set_option maxHeartbeats 400000 in
theorem sameInts_same (u v : Value) (st : List Int) (w : World) (hu : HasInts w u st) (hv : HasInts w v st) :
    Calls Tryz.prog 14 #[u, v] w fun e w' => e = .returned (.bool true) ∧ Below w.heap.size w w' := by
  obtain ⟨a, c, rfl, hm0, hm1, _, ha⟩ := hu
  obtain ⟨a', c', rfl, _, _, _, ha'⟩ := hv
  unfold maxLen at hm1
  have hm : st.length ≤ 9223372036854775807 := by omega
  clear hm0 hm1
  by_cases h0 : st = []
  · subst h0
    clear ha ha' hm
    go_enter Tryz.func14, Tryz.ntmps14
    go_wp2
    refine wp_loop_rounds 1 ?_
    rw [rounds_succ]
    go_wp2
    go_ret
    exact ⟨rfl, Below.refl _ _⟩
  · obtain h | ⟨b, off, rfl, hc⟩ := ha
    · exact absurd h h0
    obtain h | ⟨b', off', rfl, hc'⟩ := ha'
    · exact absurd h h0
    have HC : Hid (∀ wr, Below w.heap.size w wr → ∀ j, (hj : j < st.length) → wr.cell? ⟨b, off + j, none⟩ = some (.int .i64 st[j]) ∧ wr.cell? ⟨b', off' + j, none⟩ = some (.int .i64 st[j])) := fun wr hW j hj =>
      ⟨(hW.cell (World.block_lt_of_cell? w _ (hc j hj))).trans (hc j hj), (hW.cell (World.block_lt_of_cell? w _ (hc' j hj))).trans (hc' j hj)⟩
    clear hc hc' h0
    go_enter Tryz.func14, Tryz.ntmps14
    go_wp2
    go_loopw [5] (fun i wr => ∃ k : Nat, k ≤ st.length ∧ i = .int .i64 k ∧ Below w.heap.size w wr) (fun i _ => st.length - (intOf i).toNat)
    case atStart => exact ⟨0, by omega, rfl, Below.refl _ _⟩
    case round =>
      obtain ⟨k, hk, rfl, hnx⟩ := hrel
      by_cases hkl : k < st.length
      · obtain ⟨c1, c2⟩ := HC.out wr hnx k hkl
        have hk1 : (0 : Int) ≤ (k : Int) := by omega
        have hk2 : (k : Int) < (st.length : Int) := by omega
        have hwr : IntKind.i64.wrap ((k : Int) + 1) = (k : Int) + 1 := by rw [IntKind.wrap_i64]; omega
        go_wp2_with fail
        go_region
        go_wp2
        go_roundw
        case rel => exact ⟨k + 1, by omega, by go_num, Below.drew hnx⟩
        case measure => simp [intOf]; omega
      · have : k = st.length := by omega
        subst this
        go_wp2
        go_ret
        exact ⟨rfl, hnx⟩

/-- The handle of errors' own type. -/
def HandAt (w : World) : Prop := w.cell? ⟨2, 0, none⟩ = some (.iface 143 (.agg #[.pointer (some ⟨5, 28, none⟩)]))

theorem names_same (o : Int) (ops : List Opn) (ah : Opn → Opn → Bool) (bud : Nat) : (searchM ⟨o, ops, ah, bud, nameB⟩).code = (searchM ⟨o, ops, ah, bud, nameD Lib.itoa⟩).code ∧ (searchM ⟨o, ops, ah, bud, nameB⟩).ord = (searchM ⟨o, ops, ah, bud, nameD Lib.itoa⟩).ord ∧ (searchM ⟨o, ops, ah, bud, nameB⟩).ent.length = (searchM ⟨o, ops, ah, bud, nameD Lib.itoa⟩).ent.length :=
  search_names (c := ⟨o, ops, ah, bud, nameB⟩) (c' := ⟨o, ops, ah, bud, nameD Lib.itoa⟩) rfl (fun _ _ _ => rfl) rfl (fun ord S ord' S' => names_agree itoa_nb ord ord' S S') rfl

/-- Three cells of a block that stays. -/
theorem three_stay {W W' : World} {b : Nat} {x y z : Value} {t : TypeId} (h : W.heap[b]? = some (.cells #[x, y, z] t (0, 0))) (hb : Below W.heap.size W W') : W'.heap[b]? = some (.cells #[x, y, z] t (0, 0)) ∧ b < W'.heap.size ∧ W'.cell? ⟨b, 0, none⟩ = some x ∧ W'.cell? ⟨b, 1, none⟩ = some y ∧ W'.cell? ⟨b, 2, none⟩ = some z := by
  have e := (hb.block b (lt_of_heap h)).trans h
  exact ⟨e, lt_of_heap e, cell_of_row W' _ _ _ t (0, 0) e, cell_of_row W' _ _ _ t (0, 0) e, cell_of_row W' _ _ _ t (0, 0) e⟩

set_option maxRecDepth 100000 in
set_option maxHeartbeats 2000000 in
theorem verdict_err (sm : Bool) (o bud : Int) (ops : List Opn) (u : Value) (n : Int) (w : World) (hlen : ops.length ≤ 60) (hl : OpsIn w u ops) (hg : HandAt w) (hn : n ≠ 0) (hlc : LcTold o bud ops n) :
    Calls Tryz.prog 7 #[.agg #[.int .i64 0, .slice none 0 0, .int .i64 0], .iface 35 (.int .i64 n), .int .i64 o, u, .int .i64 bud, .bool sm] w fun e w' => e = .returned (.bool true) ∧ Below w.heap.size w w' := by
  have h2 : 2 < w.heap.size := World.block_lt_of_cell? w ⟨2, 0, none⟩ hg
  have HC : Hid (∀ W, Below w.heap.size w W → Calls Tryz.prog 11 #[.int .i64 o, u, .int .i64 bud] W fun e w' => e = .returned (.int .i64 n) ∧ Below W.heap.size W w') := hideIt (fun W hW => (refLinCheck_any o bud ops u W hlen (hl.below hW)).mono fun e w' ⟨m, he, hm, hb⟩ => ⟨by rw [he, lcTold_one hm hlc], hb⟩)
  have HB : Hid (∀ W, Below w.heap.size w W → Calls Tryz.prog 13 #[.iface 35 (.int .i64 n), .int .i64 n] W fun e w' => e = .returned (.bool true) ∧ Below W.heap.size W w') := hideIt (fun W hW => by
    have := bare_told n W ((hW.cell (p := ⟨2, 0, none⟩) h2).trans hg)
    rw [toldV_some hn] at this
    exact this)
  have HS : Hid (∀ W, Calls Tryz.prog 14 #[.slice none 0 0, .slice none 0 0] W fun e w' => e = .returned (.bool true) ∧ Below W.heap.size W w') := hideIt (fun W => sameInts_same _ _ [] W (nil_has W) (nil_has W))
  have hn0 : (n == 0) = false := by simp; exact hn
  have HE0 := hideIt (heap_alloc_new w (.cells #[.int .i64 0, .slice none 0 0, .int .i64 0] 26))
  have HB0 := hideIt (belN w (.cells #[.int .i64 0, .slice none 0 0, .int .i64 0] 26))
  clear hl hg hlc
  go_enter Tryz.func7, Tryz.ntmps7
  go_wp2_with fail
  refine (HC.out _ HB0.out).mono ?_
  rintro e w1 ⟨rfl, hb1⟩
  have HB1 := hideIt (belJ HB0.out hb1)
  obtain ⟨hv1, hv1l, v0, v1, v2⟩ := three_stay HE0.out hb1
  have HV1 := hideIt hv1
  have HW1 := hideIt (heap_alloc_new w1 (.cells #[.int .i64 0, .slice none 0 0, .int .i64 0] 37))
  have HBW1 := hideIt (belA HB1.out (.cells #[.int .i64 0, .slice none 0 0, .int .i64 0] 37))
  have HVW : Hid ((w1.alloc (.cells #[.int .i64 0, .slice none 0 0, .int .i64 0] 37)).heap[w.heap.size]? = _) := hideIt ((Below.heap_alloc w1 _ _ hv1l).trans hv1)
  clear hv1 hb1
  go_wp2_with (first
    | (go_at_call 13; refine (HB.out _ HBW1.out).mono ?_; rintro e w2 ⟨rfl, hb2⟩; have HB2 := hideIt hb2; obtain ⟨hx2, hx2l, x0, x1, x2⟩ := three_stay HVW.out hb2; obtain ⟨hy2, hy2l, y0, y1, y2⟩ := three_stay HW1.out hb2; clear hb2 hx2 hy2)
    | (go_at_call 14; refine (HS.out _).mono ?_; rintro e w3 ⟨rfl, hb3⟩; have HB3 := hideIt hb3; clear hb3))
  go_ret
  exact ⟨rfl, belJ (belJ HBW1.out HB2.out) HB3.out⟩

set_option maxRecDepth 100000 in
set_option maxHeartbeats 2000000 in
theorem verdict_ok (sm : Bool) (o : Int) (bn : Nat) (ops : List Opn) (u : Value) (va : Option Addr) (vl vc : Nat) (w : World) (hlen : ops.length ≤ 60) (hl : OpsIn w u ops) (hg : HandAt w) (hD : DebAt w) (hP : PowAt w) (hlc : LcTold o bn ops 0)
    (hv : HasInts w (.slice va vl vc) (if (searchM ⟨o, ops, ahB sm, bn, nameB⟩).code = 1 then iL (searchM ⟨o, ops, ahB sm, bn, nameB⟩).ord else [])) :
    Calls Tryz.prog 7 #[.agg #[.int .i64 ((searchM ⟨o, ops, ahB sm, bn, nameB⟩).code : Int), .slice va vl vc, .int .i64 ((searchM ⟨o, ops, ahB sm, bn, nameB⟩).ent.length : Int)], .nilIface, .int .i64 o, u, .int .i64 bn, .bool sm] w fun e w' => e = .returned (.bool true) ∧ Below w.heap.size w w' := by
  obtain ⟨nc, no, nl⟩ := names_same o ops (ahB sm) bn
  have h2 : 4 < w.heap.size := World.block_lt_of_cell? w ⟨4, 15, none⟩ hD
  have ht : Told ops 0 := by
    rcases hlc with ⟨_, e⟩ | ⟨_, _, e⟩ | ⟨_, _, _, hck⟩
    · cases e
    · cases e
    · exact ckTold_told hck
  have hbn : bn ≤ 1000000 := by
    rcases hlc with ⟨_, e⟩ | ⟨_, _, e⟩ | ⟨_, h0, h1, _⟩
    · cases e
    · cases e
    · omega
  have HC : Hid (∀ W, Below w.heap.size w W → Calls Tryz.prog 11 #[.int .i64 o, u, .int .i64 bn] W fun e w' => e = .returned (.int .i64 0) ∧ Below W.heap.size W w') := hideIt (fun W hW => (refLinCheck_any o bn ops u W hlen (hl.below hW)).mono fun e w' ⟨m, he, hm, hb⟩ => ⟨by rw [he, lcTold_one hm hlc], hb⟩)
  have HL : Hid (∀ W, Below w.heap.size w W → Calls Tryz.prog 12 #[.int .i64 o, u, .int .i64 bn, .bool sm] W fun e w' => LnTold W (searchM ⟨o, ops, ahB sm, bn, nameD Lib.itoa⟩) e w') := hideIt (fun W hW =>
    linear_any o bn sm ops u W (hl.below hW) (deb_below hD h2 hW) (pow_below hP h2 hW) (by have := hW.size; omega) (fun fn wv b0 B M => ⟨hlen, told_keysN ht, told_nums ht, hbn⟩))
  have HB : Hid (∀ W, Below w.heap.size w W → Calls Tryz.prog 13 #[.nilIface, .int .i64 0] W fun e w' => e = .returned (.bool true) ∧ Below W.heap.size W w') := hideIt (fun W hW => by
    have := bare_told 0 W ((hW.cell (p := ⟨2, 0, none⟩) (by show 2 < w.heap.size; omega)).trans hg)
    exact this)
  rw [nc, no] at hv
  rw [nc, nl]
  clear nc no nl
  generalize searchM ⟨o, ops, ahB sm, bn, nameD Lib.itoa⟩ = R at *
  obtain ⟨st, hst⟩ : ∃ st, (if R.code = 1 then iL R.ord else []) = st := ⟨_, rfl⟩
  rw [hst] at hv
  have HS : Hid (∀ W a l c, Below w.heap.size w W → HasInts W (.slice a l c) st → Calls Tryz.prog 14 #[.slice va vl vc, .slice a l c] W fun e w' => e = .returned (.bool true) ∧ Below W.heap.size W w') := hideIt (fun W a l c hW h => sameInts_same _ _ st W (hv.belowD hW) h)
  have HLN : Hid (∀ W e w', LnTold W R e w' → ∃ a l c, e = .returned (.agg #[.int .i64 (R.code : Int), .slice a l c, .int .i64 (R.ent.length : Int)]) ∧ HasInts w' (.slice a l c) st ∧ (∀ x, a = some x → W.heap.size ≤ x.block) ∧ Below W.heap.size W w') := hideIt (fun W e w' ⟨hb, ov, he, h1, h0⟩ => by
    by_cases hc : R.code = 1
    · have ho := h1 hc
      obtain ⟨a, c, e⟩ := ownsRow_slice ho
      subst e
      refine ⟨a, _, c, he, ?_, fun x hx => (ho.lt x.block (by rw [hx]; rfl)).1, hb⟩
      rw [← hst, if_pos hc]; exact ord_has ho
    · have := h0 hc
      subst this
      refine ⟨none, 0, 0, he, ?_, (fun x hx => by cases hx), hb⟩
      rw [← hst, if_neg hc]; exact nil_has _)
  generalize ((R.code : Nat) : Int) = xc at *
  generalize ((R.ent.length : Nat) : Int) = xe at *
  have HE0 := hideIt (heap_alloc_new w (.cells #[.int .i64 xc, .slice va vl vc, .int .i64 xe] 26))
  have HB0 := hideIt (belN w (.cells #[.int .i64 xc, .slice va vl vc, .int .i64 xe] 26))
  clear hl hg hlc hD hP hv hst ht
  go_enter Tryz.func7, Tryz.ntmps7
  go_wp2_with fail
  refine (HC.out _ HB0.out).mono ?_
  rintro e w1 ⟨rfl, hb1⟩
  have HB1 := hideIt (belJ HB0.out hb1)
  obtain ⟨hv1, hv1l, v0, v1, v2⟩ := three_stay HE0.out hb1
  have HW1 := hideIt (heap_alloc_new w1 (.cells #[.int .i64 0, .slice none 0 0, .int .i64 0] 37))
  have HBW1 := hideIt (belA HB1.out (.cells #[.int .i64 0, .slice none 0 0, .int .i64 0] 37))
  have HVW : Hid ((w1.alloc (.cells #[.int .i64 0, .slice none 0 0, .int .i64 0] 37)).heap[w.heap.size]? = _) := hideIt ((Below.heap_alloc w1 _ _ hv1l).trans hv1)
  clear hv1 hb1
  go_wp2_with fail
  refine (HL.out _ HBW1.out).mono ?_
  intro e w2 hln
  obtain ⟨a, l, c, rfl, hi2, hab, hb2⟩ := HLN.out _ _ _ hln
  have hs1 : (w1.alloc (.cells #[.int .i64 0, .slice none 0 0, .int .i64 0] 37)).heap.size = w1.heap.size + 1 := by simp
  obtain ⟨hx2, hx2l, x0, x1, x2⟩ := three_stay HVW.out hb2
  obtain ⟨hy2, hy2l, y0, y1, y2⟩ := three_stay HW1.out hb2
  have yf : ∀ i, w2.frozen? ⟨w1.heap.size, i, none⟩ = false := fun i => frozen_of_row w2 _ _ _ 37 hy2
  have hne : w.heap.size ≠ w1.heap.size := by omega
  have HW3 : Hid (∀ W3, W3 = ((w2.setCell ⟨w1.heap.size, 0, none⟩ (.int .i64 xc)).setCell ⟨w1.heap.size, 1, none⟩ (.slice a l c)).setCell ⟨w1.heap.size, 2, none⟩ (.int .i64 xe) → W3.heap[w.heap.size]? = some (.cells #[.int .i64 xc, .slice va vl vc, .int .i64 xe] 26 (0, 0)) ∧ W3.heap[w1.heap.size]? = some (.cells #[.int .i64 xc, .slice a l c, .int .i64 xe] 37 (0, 0)) ∧ Below w.heap.size w W3 ∧ HasInts W3 (.slice a l c) st) := hideIt (fun W3 e => by
    subst e
    have hbw : Below w.heap.size w w2 := belJ HBW1.out hb2
    refine ⟨?_, ?_, ?_, ?_⟩
    · rw [Below.heap_setCell _ _ _ _ hne, Below.heap_setCell _ _ _ _ hne, Below.heap_setCell _ _ _ _ hne]; exact hx2
    · simp [World.setCell, Array.getElem?_modify, hy2]
    · exact ((hbw.setCell (p := ⟨w1.heap.size, 0, none⟩) HB1.out.size _).setCell (p := ⟨w1.heap.size, 1, none⟩) HB1.out.size _).setCell (p := ⟨w1.heap.size, 2, none⟩) HB1.out.size _
    · obtain ⟨a', c', e, h1, h2, h3, h4⟩ := hi2
      refine ⟨a', c', e, h1, h2, h3, ?_⟩
      rcases h4 with h4 | ⟨b, off, e', hc⟩
      · exact .inl h4
      · by_cases h0 : st = []
        · exact .inl h0
        · refine .inr ⟨b, off, e', fun j hj => ?_⟩
          have hbn : b ≠ w1.heap.size := fun eb => by
            have h5 : (Value.slice a l c) = .slice a' st.length c' := e
            have h6 : a = some ⟨b, off, none⟩ := by injection h5 with h7; rw [h7, e']
            have := hab _ h6
            rw [hs1] at this
            have : w1.heap.size + 1 ≤ b := this
            omega
          rw [World.cell?_of_block (a := ⟨b, off + j, none⟩) ((Below.heap_setCell _ _ _ _ hbn).trans ((Below.heap_setCell _ _ _ _ hbn).trans (Below.heap_setCell _ _ _ _ hbn)))]
          exact hc j hj)
  have HX2 := hideIt hx2
  clear hln hi2 hb2 hx2 hy2 v0 v1 v2 hab hs1
  go_wp2_with (first
    | (go_at_call 13; refine (HB.out _ (HW3.out _ rfl).2.2.1).mono ?_; rintro e w4 ⟨rfl, hb4⟩; obtain ⟨g1, g2, g3, g4⟩ := HW3.out _ rfl; have HB4 := hideIt (belJ g3 hb4); have HI4 := hideIt (g4.belowD hb4); obtain ⟨_, hp4l, p0, p1, p2⟩ := three_stay g1 hb4; obtain ⟨_, hq4l, q0, q1, q2⟩ := three_stay g2 hb4; clear hb4 g1 g2 g3 g4)
    | (go_at_call 14; refine (HS.out _ _ _ _ HB4.out HI4.out).mono ?_; rintro e w5 ⟨rfl, hb5⟩; have HB5 := hideIt (belJ HB4.out hb5); clear hb5))
  go_ret
  exact ⟨rfl, HB5.out⟩
end Go.Proofs.YtkbjaneekblgmaaGreatDoor

namespace Go.Proofs.YtkbjaneekblgmaaGreatDoor
open Go.RowKit

/-- Either answer. -/
def BoolR (e : Ending) : Prop := ∃ b, e = .returned (.bool b)
set_option maxHeartbeats 400000 in
theorem tight_any (a : Option Addr) (n cap : Nat) (bud : Int) (w : World) : Calls Tryz.prog 5 #[.slice a n cap, .int .i64 bud] w fun e w' => BoolR e ∧ w' = w := by
  go_enter Tryz.func5, Tryz.ntmps5
  go_wp2
  all_goals (go_ret; exact ⟨⟨_, rfl⟩, rfl⟩)

/-- What both searches tell, as the statement hands it on. -/
def VTwo (sm : Bool) (o bud : Int) (ops : List Opn) (w : World) (e : Ending) (w' : World) : Prop :=
  Below w.heap.size w w' ∧ ((∃ n, n ≠ 0 ∧ LcTold o bud ops n ∧ e = .returned (.tuple #[.agg #[.int .i64 0, .slice none 0 0, .int .i64 0], .iface 35 (.int .i64 n)])) ∨
    (LcTold o bud ops 0 ∧ ∃ bn : Nat, bud = bn ∧ ∃ va vl vc, e = .returned (.tuple #[.agg #[.int .i64 ((searchM ⟨o, ops, ahB sm, bn, nameB⟩).code : Int), .slice va vl vc, .int .i64 ((searchM ⟨o, ops, ahB sm, bn, nameB⟩).ent.length : Int)], .nilIface]) ∧
      HasInts w' (.slice va vl vc) (if (searchM ⟨o, ops, ahB sm, bn, nameB⟩).code = 1 then iL (searchM ⟨o, ops, ahB sm, bn, nameB⟩).ord else [])))
theorem vTwo_rest {sm : Bool} {o bud : Int} {ops : List Opn} {R : Res} {bn : Nat} {w w' : World} {ov : Value} (hR : searchM ⟨o, ops, ahB sm, bn, nameB⟩ = R) (hlc : LcTold o bud ops 0) (hb : bud = bn) (hbel : Below w.heap.size w w')
    (h1 : R.code = 1 → w'.ownsRow w.heap.size 3 1 ov R.ord.length (ordV R.ord)) (h0 : R.code ≠ 1 → ov = .slice none 0 0) : VTwo sm o bud ops w (.returned (.tuple #[.agg #[.int .i64 (R.code : Int), ov, .int .i64 (R.ent.length : Int)], .nilIface])) w' := by
  refine ⟨hbel, .inr ⟨hlc, bn, hb, ?_⟩⟩
  rw [hR]
  by_cases hc : R.code = 1
  · obtain ⟨a, c, e⟩ := ownsRow_slice (h1 hc)
    subst e
    exact ⟨a, _, c, rfl, by rw [if_pos hc]; exact ord_has (h1 hc)⟩
  · have := h0 hc
    subst this
    exact ⟨none, 0, 0, rfl, by rw [if_neg hc]; exact nil_has _⟩
theorem lc_bud {o bud : Int} {ops : List Opn} (h : LcTold o bud ops 0) : bud = ((bud.toNat : Nat) : Int) := by
  rcases h with ⟨_, e⟩ | ⟨_, _, e⟩ | ⟨_, h0, _, _⟩
  · cases e
  · cases e
  · omega
theorem vTwo_check {o bud : Int} {ops : List Opn} {w w' : World} {e : Ending} (h : JTold o bud ops w e w') : VTwo false o bud ops w e w' := by
  obtain ⟨hb, ⟨n, hn, hl, rfl⟩ | ⟨hl, ov, rfl, h1, h0⟩⟩ := h
  · exact ⟨hb, .inl ⟨n, hn, hl, by rw [toldV_some hn]⟩⟩
  · exact vTwo_rest (sm := false) (R := searchM (srB o ops bud.toNat)) rfl hl (lc_bud hl) hb h1 h0
theorem vTwo_same {o bud : Int} {ops : List Opn} {w w' : World} {e : Ending} (h : Sm.JTold o bud ops w e w') : VTwo true o bud ops w e w' := by
  obtain ⟨hb, ⟨n, hn, hl, rfl⟩ | ⟨hl, ov, rfl, h1, h0⟩⟩ := h
  · exact ⟨hb, .inl ⟨n, hn, hl, by rw [toldV_some hn]⟩⟩
  · exact vTwo_rest (sm := true) (R := searchM (Sm.srB o ops bud.toNat)) rfl hl (lc_bud hl) hb h1 h0

section
variable (o bud : Int) (ops : List Opn) (a : Option Addr) (cap : Nat) (w : World)
set_option maxHeartbeats 400000 in
theorem checks_long (n : Nat) (h : 60 < n) (h2 : n ≤ maxLen) : Calls Tryz.prog 3 #[.int .i64 o, .slice a n cap, .int .i64 bud] w fun e w' => e = .returned (.bool true) ∧ Below w.heap.size w w' := by
  unfold maxLen at h2
  go_enter Tryz.func3, Tryz.ntmps3
  go_wp2
  go_ret
  exact ⟨rfl, Below.refl _ _⟩
set_option maxHeartbeats 400000 in
theorem same_long (n : Nat) (h : 60 < n) (h2 : n ≤ maxLen) : Calls Tryz.prog 4 #[.int .i64 o, .slice a n cap, .int .i64 bud] w fun e w' => e = .returned (.bool true) ∧ Below w.heap.size w w' := by
  unfold maxLen at h2
  go_enter Tryz.func4, Tryz.ntmps4
  go_wp2
  go_ret
  exact ⟨rfl, Below.refl _ _⟩

def erV : Option Int → Value
  | none => .nilIface
  | some n => .iface 35 (.int .i64 n)
theorem two_verdict (sm : Bool) (hlen : ops.length ≤ 60) (hl : OpsIn w (.slice a ops.length cap) ops) (hg : HandAt w) (hD : DebAt w) (hP : PowAt w) : ∀ e w', VTwo sm o bud ops w e w' → ∃ xc va vl vc xe er, e = .returned (.tuple #[.agg #[.int .i64 xc, .slice va vl vc, .int .i64 xe], erV er]) ∧ Below w.heap.size w w' ∧ ∀ W, Below w'.heap.size w' W → Calls Tryz.prog 7 #[.agg #[.int .i64 xc, .slice va vl vc, .int .i64 xe], erV er, .int .i64 o, .slice a ops.length cap, .int .i64 bud, .bool sm] W fun e w'' => e = .returned (.bool true) ∧ Below W.heap.size W w'' := by
  have h4 : 4 < w.heap.size := World.block_lt_of_cell? w ⟨4, 15, none⟩ hD
  intro e w' h
  obtain ⟨hb, ⟨n, hn, hlc, rfl⟩ | ⟨hlc, bn, hbn, va, vl, vc, rfl, hi⟩⟩ := h
  · refine ⟨0, none, 0, 0, 0, some n, rfl, hb, fun W hW => ?_⟩
    have hbW := belJ hb hW
    exact verdict_err sm o bud ops _ n W hlen (hl.below hbW) ((hbW.cell (p := ⟨2, 0, none⟩) (by show 2 < w.heap.size; omega)).trans hg) hn hlc
  · subst hbn
    refine ⟨_, va, vl, vc, _, none, rfl, hb, fun W hW => ?_⟩
    have hbW := belJ hb hW
    exact verdict_ok sm o bn ops _ va vl vc W hlen (hl.below hbW) ((hbW.cell (p := ⟨2, 0, none⟩) (by show 2 < w.heap.size; omega)).trans hg) (deb_below hD h4 hbW) (pow_below hP h4 hbW) hlc (hi.belowD hW)

set_option maxRecDepth 100000 in
set_option maxHeartbeats 1000000 in
theorem checks_some (hlen : ops.length ≤ 60) (hl : OpsIn w (.slice a ops.length cap) ops) (hK : KnownAt w) (hg : HandAt w) (hD : DebAt w) (hP : PowAt w) :
    Calls Tryz.prog 3 #[.int .i64 o, .slice a ops.length cap, .int .i64 bud] w fun e w' => e = .returned (.bool true) ∧ Below w.heap.size w w' := by
  have h60 : decide (60 < (ops.length : Int)) = false := by simp; omega
  have h4 : 4 < w.heap.size := World.block_lt_of_cell? w ⟨4, 15, none⟩ hD
  have HT := hideIt (tight_any a ops.length cap bud)
  have HC : Hid (Calls Tryz.prog 6 #[.int .i64 o, .slice a ops.length cap, .int .i64 bud] w fun e w' => VTwo false o bud ops w e w') := hideIt ((check_any o bud ops _ w hlen hl hK).mono fun e w' h => vTwo_check h)
  have HV := hideIt (two_verdict o bud ops a cap w false hlen hl hg hD hP)
  clear hl hK hg hD hP
  go_enter Tryz.func3, Tryz.ntmps3
  go_wp2_with fail
  refine (HT.out w).mono ?_
  rintro e w1 ⟨⟨b, rfl⟩, rfl⟩
  cases b
  · go_wp2
    go_ret
    exact ⟨rfl, Below.refl _ _⟩
  · go_wp2_with fail
    refine HC.out.mono ?_
    intro e w2 hv
    obtain ⟨xc, va, vl, vc, xe, er, rfl, hb2, hcall⟩ := HV.out _ _ hv
    have HB2 := hideIt hb2
    have HCALL := hideIt hcall
    clear hv hb2 hcall
    rcases er with _ | n
    · simp only [erV] at HCALL ⊢
      go_wp2_with (go_at_call 7; refine (HCALL.out _ (belN _ _)).mono ?_; rintro e w3 ⟨rfl, hb3⟩; have HB3 := hideIt hb3; clear hb3)
      go_ret
      exact ⟨rfl, belJ (belJ HB2.out (belN _ _)) HB3.out⟩
    · simp only [erV] at HCALL ⊢
      go_wp2_with (go_at_call 7; refine (HCALL.out _ (belN _ _)).mono ?_; rintro e w3 ⟨rfl, hb3⟩; have HB3 := hideIt hb3; clear hb3)
      go_ret
      exact ⟨rfl, belJ (belJ HB2.out (belN _ _)) HB3.out⟩
set_option maxRecDepth 100000 in
set_option maxHeartbeats 1000000 in
theorem same_some (hlen : ops.length ≤ 60) (hl : OpsIn w (.slice a ops.length cap) ops) (hK : KnownAt w) (hg : HandAt w) (hD : DebAt w) (hP : PowAt w) :
    Calls Tryz.prog 4 #[.int .i64 o, .slice a ops.length cap, .int .i64 bud] w fun e w' => e = .returned (.bool true) ∧ Below w.heap.size w w' := by
  have h60 : decide (60 < (ops.length : Int)) = false := by simp; omega
  have h4 : 4 < w.heap.size := World.block_lt_of_cell? w ⟨4, 15, none⟩ hD
  have HT := hideIt (tight_any a ops.length cap bud)
  have HC : Hid (Calls Tryz.prog 8 #[.int .i64 o, .slice a ops.length cap, .int .i64 bud] w fun e w' => VTwo true o bud ops w e w') := hideIt ((Sm.same_all o bud ops _ w hlen hl hK).mono fun e w' h => vTwo_same h)
  have HV := hideIt (two_verdict o bud ops a cap w true hlen hl hg hD hP)
  clear hl hK hg hD hP
  go_enter Tryz.func4, Tryz.ntmps4
  go_wp2_with fail
  refine (HT.out w).mono ?_
  rintro e w1 ⟨⟨b, rfl⟩, rfl⟩
  cases b
  · go_wp2
    go_ret
    exact ⟨rfl, Below.refl _ _⟩
  · go_wp2_with fail
    refine HC.out.mono ?_
    intro e w2 hv
    obtain ⟨xc, va, vl, vc, xe, er, rfl, hb2, hcall⟩ := HV.out _ _ hv
    have HB2 := hideIt hb2
    have HCALL := hideIt hcall
    clear hv hb2 hcall
    rcases er with _ | n
    · simp only [erV] at HCALL ⊢
      go_wp2_with (go_at_call 7; refine (HCALL.out _ (belN _ _)).mono ?_; rintro e w3 ⟨rfl, hb3⟩; have HB3 := hideIt hb3; clear hb3)
      go_ret
      exact ⟨rfl, belJ (belJ HB2.out (belN _ _)) HB3.out⟩
    · simp only [erV] at HCALL ⊢
      go_wp2_with (go_at_call 7; refine (HCALL.out _ (belN _ _)).mono ?_; rintro e w3 ⟨rfl, hb3⟩; have HB3 := hideIt hb3; clear hb3)
      go_ret
      exact ⟨rfl, belJ (belJ HB2.out (belN _ _)) HB3.out⟩

/-- Either statement, whatever the ops. -/
theorem checks_all (u : Value) (hl : OpsIn w u ops) (hK : KnownAt w) (hg : HandAt w) (hD : DebAt w) (hP : PowAt w) : Calls Tryz.prog 3 #[.int .i64 o, u, .int .i64 bud] w fun e w' => e = .returned (.bool true) ∧ Below w.heap.size w w' := by
  have hl' := hl
  obtain ⟨a1, cap1, rfl, hc, hm, _⟩ := hl
  by_cases h60 : 60 < ops.length
  · exact checks_long o bud a1 cap1 w _ h60 hm
  · exact checks_some o bud ops a1 cap1 w (by omega) hl' hK hg hD hP
theorem same_alls (u : Value) (hl : OpsIn w u ops) (hK : KnownAt w) (hg : HandAt w) (hD : DebAt w) (hP : PowAt w) : Calls Tryz.prog 4 #[.int .i64 o, u, .int .i64 bud] w fun e w' => e = .returned (.bool true) ∧ Below w.heap.size w w' := by
  have hl' := hl
  obtain ⟨a1, cap1, rfl, hc, hm, _⟩ := hl
  by_cases h60 : 60 < ops.length
  · exact same_long o bud a1 cap1 w _ h60 hm
  · exact same_some o bud ops a1 cap1 w (by omega) hl' hK hg hD hP
end
end Go.Proofs.YtkbjaneekblgmaaGreatDoor
