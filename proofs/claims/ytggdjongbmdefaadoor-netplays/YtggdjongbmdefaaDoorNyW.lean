/-
  The statement NetPlays, walked.
-/
import Derived.Test.YtggdjongbmdefaaDoorNyB
namespace Go.Proofs.YtggdjongbmdefaaDoor
open Go.RowKit

theorem play_new (w : World) : PlayI w ((w.alloc (.cells #[.slice none 0 0, .slice none 0 0] 38)).alloc (.cells #[.bool false, .slice none 0 0, .slice none 0 0] 42)) true 1 (fun _ _ => true) (.slice none 0 0) (.slice none 0 0) (.slice none 0 0) (.slice none 0 0) [] [] := by
  have h0 := heap_alloc_new w (.cells #[.slice none 0 0, .slice none 0 0] 38)
  have h1 : ((w.alloc (.cells #[.slice none 0 0, .slice none 0 0] 38)).alloc (.cells #[.bool false, .slice none 0 0, .slice none 0 0] 42)).heap[w.heap.size]? = some (.cells #[.slice none 0 0, .slice none 0 0] 38) := (Below.heap_alloc _ _ w.heap.size (by simp)).trans h0
  have h2 : ((w.alloc (.cells #[.slice none 0 0, .slice none 0 0] 38)).alloc (.cells #[.bool false, .slice none 0 0, .slice none 0 0] 42)).heap[w.heap.size + 1]? = some (.cells #[.bool false, .slice none 0 0, .slice none 0 0] 42) := by
    have := heap_alloc_new (w.alloc (.cells #[.slice none 0 0, .slice none 0 0] 38)) (.cells #[.bool false, .slice none 0 0, .slice none 0 0] 42)
    simpa using this
  refine ⟨belA (belA (Below.refl _ _) _) _, ⟨by rw [cell_of_row _ _ _ _ 38 _ h1]; rfl, by rw [cell_of_row _ _ _ _ 38 _ h1]; rfl, frozen_of_row _ _ _ _ 38 h1, ⟨rfl, .inl ⟨rfl, rfl⟩⟩, by simp; omega, by simp [Value.ownBlock]⟩, by rw [h1]; rfl, ⟨by rw [cell_of_row _ _ _ _ 42 _ h2]; rfl, by rw [cell_of_row _ _ _ _ 42 _ h2]; rfl, by rw [cell_of_row _ _ _ _ 42 _ h2]; rfl, frozen_of_row _ _ _ _ 42 h2, ⟨rfl, .inl ⟨rfl, rfl⟩⟩, by simp; omega, by simp [Value.ownBlock]⟩, by rw [h2]; rfl, .inl ⟨rfl, rfl⟩, ⟨Nat.le_refl _, by omega⟩, fun i => frozen_of_row _ _ _ _ 38 h1, fun i => frozen_of_row _ _ _ _ 42 h2⟩

theorem doc_at {w : World} {base B o : Nat} {cut : Bool} {lv v : Value} {L : List Md} (h : NetD w base B o cut lv v L) {k : Nat} {m : Md} (hm : L[k]? = some m) : ∃ g cap, v = .slice (some ⟨g, 0, none⟩) L.length cap ∧ w.cell? ⟨g, k * 3, none⟩ = some (.int .i64 m.fr) ∧ w.cell? ⟨g, k * 3 + 1, none⟩ = some (.int .i64 m.to) ∧ w.cell? ⟨g, k * 3 + 2, none⟩ = some (.int .i64 m.wh) := by
  have hk : k < L.length := (List.getElem?_eq_some_iff.1 hm).1
  obtain rfl : L[k] = m := by rw [List.getElem?_eq_getElem hk] at hm; exact Option.some.inj hm
  rcases own_cells h.row with ⟨_, e⟩ | ⟨g, cap, e, _, _, hc⟩
  · omega
  · have hh : ∀ j u, (mdC L[k])[j]? = some u → w.cell? ⟨g, k * 3 + j, none⟩ = some u := fun j u hj => by
      have hj3 : j < 3 := (List.getElem?_eq_some_iff.1 hj).1
      rw [hc _ (by omega)]
      exact (flat_at (c := mdC) (m := 3) (fun _ => rfl) L k j hk hj3).trans hj
    exact ⟨g, cap, e, hh 0 _ rfl, hh 1 _ rfl, hh 2 _ rfl⟩

set_option maxRecDepth 100000 in
set_option maxHeartbeats 16000000 in
theorem nplays_walk (l : List Mvs) (a : Option Addr) (cap : Nat) (_hlm : l.length ≤ maxLen) (w : World) (hq : MvsQ w a l) (hg : GlE w) :
    Calls Tryd.prog 4 #[.slice a l.length cap] w fun e w' => e = .returned (.bool true) ∧ Below w.heap.size w w' := by
  have HG := hideIt hg
  have HQ0 : Hid (∀ Z, Below w.heap.size w Z → MvsQ Z a l) := fun Z hZ => hq.below hZ
  clear hq hg
  by_cases h60 : 600 < l.length
  · have h60' : decide ((l.length : Int) > 600) = true := decide_eq_true (by omega)
    have h60'' : (600 : Int) < (l.length : Int) := by omega
    go_enter Tryd.func4, Tryd.ntmps4
    go_wp2
    go_ret
    exact ⟨rfl, Below.refl _ _⟩
  have h60' : decide ((l.length : Int) > 600) = false := decide_eq_false (by omega)
  have h60'' : ¬ (600 : Int) < (l.length : Int) := by omega
  have HP0 := hideIt (play_new w)

  go_enter Tryd.func4, Tryd.ntmps4
  go_wp2
  generalize (w.alloc _).alloc _ = W0 at *
  go_loopw [5] (fun iv wr => ∃ (i : Nat) (nil : Bool) (n : Nat) (r : Nat → Nat → Bool) (lv v lvd vd : Value) (Ld : List Md), i ≤ l.length ∧ iv = .int .i64 i ∧ PlayI w wr nil n r lv v lvd vd (Ld.map toQ) Ld ∧ Ld.length ≤ 500) (fun iv _ => l.length - (intOf iv).toNat)
  case atStart => exact ⟨0, _, _, _, _, _, _, _, [], Nat.zero_le _, rfl, HP0.out, by simp⟩
  case round =>
    clear HP0
    obtain ⟨i, nil, n, r, lv, v, lvd, vd, Ld, hi, rfl, hp, hlen⟩ := hrel
    have HP := hideIt hp
    clear hp
    by_cases hil : i < l.length
    · have hil' : (i : Int) < (l.length : Int) := by omega
      obtain ⟨gg, goff, rfl, _, x0, x1, x2, x3⟩ := (HQ0.out wr HP.out.bel).at hil
      generalize l[i] = m at *
      have HB1 : Hid (Below wr.heap.size wr (wr.alloc (.cells #[.int .i64 m.what, .int .i64 m.a, .int .i64 m.b, .int .i64 m.c] 44))) := belA (Below.refl _ _) _
      have HX : Hid ((wr.alloc (.cells #[.int .i64 m.what, .int .i64 m.a, .int .i64 m.b, .int .i64 m.c] 44)).heap[wr.heap.size]? = some (.cells #[.int .i64 m.what, .int .i64 m.a, .int .i64 m.b, .int .i64 m.c] 44)) := heap_alloc_new wr _
      go_upto_block 2 with fail
      generalize wr.alloc (.cells #[.int .i64 m.what, .int .i64 m.a, .int .i64 m.b, .int .i64 m.c] 44) = W1 at *
      have HP1 := hideIt (HP.out.below HB1.out)
      go_cut [7] (fun ok wx => ok = .bool true ∧ ∃ (nil : Bool) (n : Nat) (r : Nat → Nat → Bool) (lv v lvd vd : Value) (Ld : List Md), PlayI w wx nil n r lv v lvd vd (Ld.map toQ) Ld ∧ Ld.length ≤ 500 ∧ wx.heap[wr.heap.size]? = some (.cells #[.int .i64 m.what, .int .i64 m.a, .int .i64 m.b, .int .i64 m.c] 44))
      case first =>
        have HY : Hid (∀ Z : World, Z.heap[wr.heap.size]? = some (.cells #[.int .i64 m.what, .int .i64 m.a, .int .i64 m.b, .int .i64 m.c] 44) → Z.cell? ⟨wr.heap.size, 0, none⟩ = some (.int .i64 m.what) ∧ Z.cell? ⟨wr.heap.size, 1, none⟩ = some (.int .i64 m.a) ∧ Z.cell? ⟨wr.heap.size, 2, none⟩ = some (.int .i64 m.b) ∧ Z.cell? ⟨wr.heap.size, 3, none⟩ = some (.int .i64 m.c)) := fun Z hZ => ⟨by rw [cell_of_row _ _ _ _ 44 _ hZ]; rfl, by rw [cell_of_row _ _ _ _ 44 _ hZ]; rfl, by rw [cell_of_row _ _ _ _ 44 _ hZ]; rfl, by rw [cell_of_row _ _ _ _ 44 _ hZ]; rfl⟩
        have HBr : Hid (∀ (c : Int) Z, Below w.heap.size w Z → Calls Tryd.prog 7 #[toldV c, .int .i64 c] Z fun e w' => e = .returned (.bool true) ∧ Below Z.heap.size Z w') := fun c Z hZ => bare_any c Z (HG.out.below hZ)
        have hmb : w.heap.size + 1 < wr.heap.size := HP.out.dlt
        clear x0 x1 x2 x3 HQ0 HB1 HP
        cases g0 : (m.what == 0) with
        | true =>
          as_aux_lemma =>
              go_wp2_with fail
              refine wp_region_held_drew (S := fun Z => Z.heap[wr.heap.size]? = some (.cells #[.int .i64 m.what, .int .i64 m.a, .int .i64 m.b, .int .i64 m.c] 44)) (by kernel_rfl) HX.out (fun hHeld => ?_)
              refine wpAnyH_take (i := 0) (v := ?_) rfl (by kernel_rfl) (by kernel_rfl) (by kernel_rfl) (fun _ _ _ h => h) (Or.inl ⟨by rfl, ?_⟩) (by assumption) ?_
              rotate_left 1
              · intro wz _
                go_simp
                all_goals with_reducible rfl
              simp only [Act.put, List.setIfInBounds_toArray, List.set_cons_zero, List.set_cons_succ, List.getElem_toArray, List.getElem_cons_zero]
              refine wpAnyH_take (i := 1) (v := ?_) rfl (by kernel_rfl) (by kernel_rfl) (by kernel_rfl) (fun _ _ _ h => h) (Or.inl ⟨by rfl, ?_⟩) (by assumption) ?_
              rotate_left 1
              · intro wz sb
                obtain ⟨y0, y1, y2, y3⟩ := HY.out wz sb
                go_simp
                all_goals with_reducible rfl
              simp only [Act.put, List.setIfInBounds_toArray, List.set_cons_zero, List.set_cons_succ, List.getElem_toArray, List.getElem_cons_zero, List.getElem_cons_succ]
              refine wpAnyH_take (i := 2) (v := ?_) rfl (by kernel_rfl) (by kernel_rfl) (by kernel_rfl) (fun _ _ _ h => h) (Or.inl ⟨by rfl, ?_⟩) (by assumption) ?_
              rotate_left 1
              · intro wz _
                go_simp
                all_goals with_reducible rfl
              simp only [Act.put, List.setIfInBounds_toArray, List.set_cons_zero, List.set_cons_succ, List.getElem_toArray, List.getElem_cons_zero, List.getElem_cons_succ]
              refine wpAnyH_take (i := 3) (v := ?_) rfl (by kernel_rfl) (by kernel_rfl) (by kernel_rfl) (fun _ _ _ h => h) (Or.inl ⟨by rfl, ?_⟩) (by assumption) ?_
              rotate_left 1
              · intro wz sb
                obtain ⟨y0, y1, y2, y3⟩ := HY.out wz sb
                go_simp
                all_goals with_reducible rfl
              simp only [Act.put, List.setIfInBounds_toArray, List.set_cons_zero, List.set_cons_succ, List.getElem_toArray, List.getElem_cons_zero, List.getElem_cons_succ]
              refine wpAnyH_take (i := 4) (v := ?_) rfl (by kernel_rfl) (by kernel_rfl) (by kernel_rfl) (fun _ _ _ h => h) (Or.inl ⟨by rfl, ?_⟩) (by assumption) ?_
              rotate_left 1
              · intro wz _
                go_simp
                all_goals with_reducible rfl
              simp only [Act.put, List.setIfInBounds_toArray, List.set_cons_zero, List.set_cons_succ, List.getElem_toArray, List.getElem_cons_zero, List.getElem_cons_succ]
              refine wpAnyH_take (i := 5) (v := ?_) rfl (by kernel_rfl) (by kernel_rfl) (by kernel_rfl) (fun _ _ _ h => h) (Or.inl ⟨by rfl, ?_⟩) (by assumption) ?_
              rotate_left 1
              · intro wz sb
                obtain ⟨y0, y1, y2, y3⟩ := HY.out wz sb
                go_simp
                all_goals with_reducible rfl
              simp only [Act.put, List.setIfInBounds_toArray, List.set_cons_zero, List.set_cons_succ, List.getElem_toArray, List.getElem_cons_zero, List.getElem_cons_succ]
              refine wpAnyH_take (i := 6) (v := ?_) rfl (by kernel_rfl) (by kernel_rfl) (by kernel_rfl) (fun _ _ _ h => h) (Or.inl ⟨by rfl, ?_⟩) (by assumption) ?_
              rotate_left 1
              · intro wz _
                go_simp
                all_goals with_reducible rfl
              simp only [Act.put, List.setIfInBounds_toArray, List.set_cons_zero, List.set_cons_succ, List.getElem_toArray, List.getElem_cons_zero, List.getElem_cons_succ]
              refine wpAnyH_take (i := 8) (v := ?_) rfl (by kernel_rfl) (by kernel_rfl) (by kernel_rfl) (fun _ _ _ h => h) (Or.inl ⟨by rfl, ?_⟩) (by assumption) ?_
              rotate_left 1
              · intro wz _
                go_simp
                all_goals with_reducible rfl
              simp only [Act.put, List.setIfInBounds_toArray, List.set_cons_zero, List.set_cons_succ, List.getElem_toArray, List.getElem_cons_zero, List.getElem_cons_succ]
              refine wpAnyH_take (i := 9) (v := ?_) rfl (by kernel_rfl) (by kernel_rfl) (by kernel_rfl) (fun _ _ _ h => h) (Or.inl ⟨by rfl, ?_⟩) (by assumption) ?_
              rotate_left 1
              · intro wz _
                go_simp
                all_goals with_reducible rfl
              simp only [Act.put, List.setIfInBounds_toArray, List.set_cons_zero, List.set_cons_succ, List.getElem_toArray, List.getElem_cons_zero, List.getElem_cons_succ]
              refine wpAnyH_take (i := 10) (v := ?_) rfl (by kernel_rfl) (by kernel_rfl) (by kernel_rfl) (fun _ _ _ h => h) (Or.inl ⟨by rfl, ?_⟩) (by assumption) ?_
              rotate_left 1
              · intro wz sb
                obtain ⟨y0, y1, y2, y3⟩ := HY.out wz sb
                go_simp
                all_goals with_reducible rfl
              simp only [Act.put, List.setIfInBounds_toArray, List.set_cons_zero, List.set_cons_succ, List.getElem_toArray, List.getElem_cons_zero, List.getElem_cons_succ]
              refine wpAnyH_take (i := 11) (v := ?_) rfl (by kernel_rfl) (by kernel_rfl) (by kernel_rfl) (fun _ _ _ h => h) (Or.inl ⟨by rfl, ?_⟩) (by assumption) ?_
              rotate_left 1
              · intro wz _
                go_simp
                all_goals with_reducible rfl
              simp only [Act.put, List.setIfInBounds_toArray, List.set_cons_zero, List.set_cons_succ, List.getElem_toArray, List.getElem_cons_zero, List.getElem_cons_succ]
              refine wpAnyH_take (i := 12) (v := ?_) rfl (by kernel_rfl) (by kernel_rfl) (by kernel_rfl) (fun _ _ _ h => h) (Or.inl ⟨by rfl, ?_⟩) (by assumption) ?_
              rotate_left 1
              · intro wz sb
                obtain ⟨y0, y1, y2, y3⟩ := HY.out wz sb
                go_simp
                all_goals with_reducible rfl
              simp only [Act.put, List.setIfInBounds_toArray, List.set_cons_zero, List.set_cons_succ, List.getElem_toArray, List.getElem_cons_zero, List.getElem_cons_succ]
              refine wpAnyH_take (i := 13) (v := ?_) rfl (by kernel_rfl) (by kernel_rfl) (by kernel_rfl) (fun _ _ _ h => h) (Or.inl ⟨by rfl, ?_⟩) (by assumption) ?_
              rotate_left 1
              · intro wz _
                go_simp
                all_goals with_reducible rfl
              simp only [Act.put, List.setIfInBounds_toArray, List.set_cons_zero, List.set_cons_succ, List.getElem_toArray, List.getElem_cons_zero, List.getElem_cons_succ]
              refine wpAnyH_take (i := 14) (v := ?_) rfl (by kernel_rfl) (by kernel_rfl) (by kernel_rfl) (fun _ _ _ h => h) (Or.inl ⟨by rfl, ?_⟩) (by assumption) ?_
              rotate_left 1
              · intro wz sb
                obtain ⟨y0, y1, y2, y3⟩ := HY.out wz sb
                go_simp
                all_goals with_reducible rfl
              simp only [Act.put, List.setIfInBounds_toArray, List.set_cons_zero, List.set_cons_succ, List.getElem_toArray, List.getElem_cons_zero, List.getElem_cons_succ]
              refine wpAnyH_take (i := 15) (v := ?_) rfl (by kernel_rfl) (by kernel_rfl) (by kernel_rfl) (fun _ _ _ h => h) (Or.inl ⟨by rfl, ?_⟩) (by assumption) ?_
              rotate_left 1
              · intro wz _
                go_simp
                all_goals with_reducible rfl
              simp only [Act.put, List.setIfInBounds_toArray, List.set_cons_zero, List.set_cons_succ, List.getElem_toArray, List.getElem_cons_zero, List.getElem_cons_succ]
              have HPd := hideIt (HP1.out.below ((Below.refl _ _).drew))
              generalize W1.drew = Y0 at *
              have HS := hideIt (send_both ⟨m.a, m.c, m.b⟩ HPd.out hlen hHeld hmb ⟨by decide, by decide⟩)
              refine wpAnyH_ready (rs := [7]) (by kernel_rfl) (by simp) (AllReadyH.cons rfl (fun K hK => ?_) AllReadyH.nil)
              go_simp
              refine HS.out.mono ?_
              clear HS HPd HP1
              rintro e W2 ⟨c, rfl, hb2, hx2, hD⟩
              have HD := hideIt (hD W2 (Below.refl _ _))
              refine hK.out _ _ hx2 (fun hHeld => ?_)
              clear hK K hb2 hx2 hD
              refine wpAnyH_ready (rs := [16]) (by kernel_rfl) (by simp) (AllReadyH.cons rfl (fun K hK => ?_) AllReadyH.nil)
              go_simp
              refine HD.out.mono ?_
              clear HD
              rintro e W3 ⟨rfl, hgood⟩
              have HGd := hideIt hgood
              obtain ⟨nil3, n3, r3, lv3, v3, lvd3, vd3, Ld3, hp3, hl3, hx3⟩ := hgood
              have HBa := hideIt (HBr.out c W3 hp3.bel)
              have HP3 := hideIt hp3
              refine hK.out _ _ hx3 (fun hHeld => ?_)
              clear hK K hx3 hp3 HGd
              generalize toldV c = tv at *
              refine wpAnyH_ready (rs := [17]) (by kernel_rfl) (by simp) (AllReadyH.cons rfl (fun K hK => ?_) AllReadyH.nil)
              go_simp
              refine HBa.out.mono ?_
              rintro e W4 ⟨rfl, hb4⟩
              have hx4 : W4.heap[wr.heap.size]? = _ := (hb4.block _ (lt_of_heap hHeld)).trans hHeld
              have HR : Hid (∃ (nil : Bool) (n : Nat) (r : Nat → Nat → Bool) (lv v lvd vd : Value) (Ld : List Md), PlayI w W4 nil n r lv v lvd vd (Ld.map toQ) Ld ∧ Ld.length ≤ 500 ∧ W4.heap[wr.heap.size]? = some (.cells #[.int .i64 m.what, .int .i64 m.a, .int .i64 m.b, .int .i64 m.c] 44)) := ⟨nil3, n3, r3, lv3, v3, lvd3, vd3, Ld3, HP3.out.below hb4, hl3, hx4⟩
              refine hK.out _ _ hx4 (fun hHeld => ?_)
              clear hK K hb4 hx4 HBa HP3
              refine wpAnyH_take (i := 18) (v := ?_) rfl (by kernel_rfl) (by kernel_rfl) (by kernel_rfl) (fun _ _ _ h => h) (Or.inl ⟨by rfl, ?_⟩) (by assumption) ?_
              rotate_left 1
              · intro wz _
                go_simp
                all_goals with_reducible rfl
              simp only [Act.put, List.setIfInBounds_toArray, List.set_cons_zero, List.set_cons_succ, List.getElem_toArray, List.getElem_cons_zero, List.getElem_cons_succ]
              refine wpAnyH_done (by kernel_rfl) ?_ _
              go_wp2
              go_meet
              exact ⟨rfl, HR.out⟩
        | false =>
        cases g1 : (m.what == 1) with
        | true =>
          as_aux_lemma =>
              obtain ⟨q0, q1, q2, q3⟩ := HY.out W1 HX.out
              have HTk := hideIt (take_both m.a HP1.out hlen HX.out hmb ⟨by decide, by decide⟩)
              clear HP1
              go_wp2_with fail
              refine HTk.out.mono ?_
              clear HTk
              rintro e W2 ⟨c, md, rfl, hb2, hx2, hD⟩
              have HD := hideIt (hD (W2.alloc (.cells #[.int .i64 md.fr, .int .i64 md.to, .int .i64 md.wh] 47)) (belA (Below.refl _ _) _))
              have hx2a : (W2.alloc (.cells #[.int .i64 md.fr, .int .i64 md.to, .int .i64 md.wh] 47)).heap[wr.heap.size]? = _ := (Below.heap_alloc W2 _ _ (lt_of_heap hx2)).trans hx2
              obtain ⟨_, p1, _, _⟩ := HY.out _ hx2a
              have hnb : (W2.alloc (.cells #[.int .i64 md.fr, .int .i64 md.to, .int .i64 md.wh] 47)).heap[W2.heap.size]? = some (.cells #[.int .i64 md.fr, .int .i64 md.to, .int .i64 md.wh] 47) := heap_alloc_new W2 _
              have hmb2 : w.heap.size + 1 < W2.heap.size := Nat.lt_trans hmb (lt_of_heap hx2)
              have HNb := hideIt hnb
              clear hD hx2 hx2a hnb q0 q1 q2 q3 HX
              have HBc := hideIt (HBr.out c)
              clear HBr
              generalize toldV c = tv at *
              go_wp2_with fail
              refine HD.out.mono ?_
              clear HD
              rintro e W3 ⟨rfl, hgood, hk3⟩
              have hn3 := hk3 _ _ _ HNb.out hmb2 (by decide)
              obtain ⟨nil3, n3, r3, lv3, v3, lvd3, vd3, Ld3, hp3, hl3, hx3⟩ := hgood
              have HBa := hideIt (HBc.out (W3.alloc (.cells #[.int .i64 md.fr, .int .i64 md.to, .int .i64 md.wh] 49)) (belA hp3.bel _))
              have HP3 := hideIt (hp3.below (belA (Below.refl _ _) (.cells #[.int .i64 md.fr, .int .i64 md.to, .int .i64 md.wh] 49)))
              have hx3a : (W3.alloc (.cells #[.int .i64 md.fr, .int .i64 md.to, .int .i64 md.wh] 49)).heap[wr.heap.size]? = _ := (Below.heap_alloc W3 _ _ (lt_of_heap hx3)).trans hx3
              have hn3a : (W3.alloc (.cells #[.int .i64 md.fr, .int .i64 md.to, .int .i64 md.wh] 49)).heap[W2.heap.size]? = _ := (Below.heap_alloc W3 _ _ (lt_of_heap hn3)).trans hn3
              have hd3a : (W3.alloc (.cells #[.int .i64 md.fr, .int .i64 md.to, .int .i64 md.wh] 49)).heap[W3.heap.size]? = some (.cells #[.int .i64 md.fr, .int .i64 md.to, .int .i64 md.wh] 49) := heap_alloc_new W3 _
              have HX3 := hideIt hx3a
              have HN3 := hideIt hn3a
              have HD3 := hideIt hd3a
              clear hk3 hp3 hx3 hx3a hn3 hn3a hd3a HNb p1 HBc
              go_wp2_with fail
              refine HBa.out.mono ?_
              clear HBa
              rintro e W4 ⟨rfl, hb4⟩
              have HR : Hid (∃ (nil : Bool) (n : Nat) (r : Nat → Nat → Bool) (lv v lvd vd : Value) (Ld : List Md), PlayI w W4 nil n r lv v lvd vd (Ld.map toQ) Ld ∧ Ld.length ≤ 500 ∧ W4.heap[wr.heap.size]? = some (.cells #[.int .i64 m.what, .int .i64 m.a, .int .i64 m.b, .int .i64 m.c] 44)) := ⟨nil3, n3, r3, lv3, v3, lvd3, vd3, Ld3, HP3.out.below hb4, hl3, (hb4.block _ (lt_of_heap HX3.out)).trans HX3.out⟩
              obtain ⟨a0, a1, a2⟩ := blk3 ((hb4.block _ (lt_of_heap HN3.out)).trans HN3.out)
              obtain ⟨b0, b1, b2⟩ := blk3 ((hb4.block _ (lt_of_heap HD3.out)).trans HD3.out)
              clear hb4 HP3 HX3 HN3 HD3
              go_wp2
              go_meet
              exact ⟨rfl, HR.out⟩
        | false =>
        cases g2 : (m.what == 2) with
        | true =>
          as_aux_lemma =>
              go_wp2_with fail
              refine wp_region_held_drew (S := fun Z => Z.heap[wr.heap.size]? = some (.cells #[.int .i64 m.what, .int .i64 m.a, .int .i64 m.b, .int .i64 m.c] 44)) (by kernel_rfl) HX.out (fun hHeld => ?_)
              refine wpAnyH_take (i := 0) (v := ?_) rfl (by kernel_rfl) (by kernel_rfl) (by kernel_rfl) (fun _ _ _ h => h) (Or.inl ⟨by rfl, ?_⟩) (by assumption) ?_
              rotate_left 1
              · intro wz _
                go_simp
                all_goals with_reducible rfl
              simp only [Act.put, List.setIfInBounds_toArray, List.set_cons_zero, List.set_cons_succ, List.getElem_toArray, List.getElem_cons_zero]
              refine wpAnyH_take (i := 1) (v := ?_) rfl (by kernel_rfl) (by kernel_rfl) (by kernel_rfl) (fun _ _ _ h => h) (Or.inl ⟨by rfl, ?_⟩) (by assumption) ?_
              rotate_left 1
              · intro wz sb
                obtain ⟨y0, y1, y2, y3⟩ := HY.out wz sb
                go_simp
                all_goals with_reducible rfl
              simp only [Act.put, List.setIfInBounds_toArray, List.set_cons_zero, List.set_cons_succ, List.getElem_toArray, List.getElem_cons_zero, List.getElem_cons_succ]
              refine wpAnyH_take (i := 3) (v := ?_) rfl (by kernel_rfl) (by kernel_rfl) (by kernel_rfl) (fun _ _ _ h => h) (Or.inl ⟨by rfl, ?_⟩) (by assumption) ?_
              rotate_left 1
              · intro wz _
                go_simp
                all_goals with_reducible rfl
              simp only [Act.put, List.setIfInBounds_toArray, List.set_cons_zero, List.set_cons_succ, List.getElem_toArray, List.getElem_cons_zero, List.getElem_cons_succ]
              refine wpAnyH_take (i := 4) (v := ?_) rfl (by kernel_rfl) (by kernel_rfl) (by kernel_rfl) (fun _ _ _ h => h) (Or.inl ⟨by rfl, ?_⟩) (by assumption) ?_
              rotate_left 1
              · intro wz _
                go_simp
                all_goals with_reducible rfl
              simp only [Act.put, List.setIfInBounds_toArray, List.set_cons_zero, List.set_cons_succ, List.getElem_toArray, List.getElem_cons_zero, List.getElem_cons_succ]
              refine wpAnyH_take (i := 5) (v := ?_) rfl (by kernel_rfl) (by kernel_rfl) (by kernel_rfl) (fun _ _ _ h => h) (Or.inl ⟨by rfl, ?_⟩) (by assumption) ?_
              rotate_left 1
              · intro wz sb
                obtain ⟨y0, y1, y2, y3⟩ := HY.out wz sb
                go_simp
                all_goals with_reducible rfl
              simp only [Act.put, List.setIfInBounds_toArray, List.set_cons_zero, List.set_cons_succ, List.getElem_toArray, List.getElem_cons_zero, List.getElem_cons_succ]
              have HPd := hideIt (HP1.out.below ((Below.refl _ _).drew))
              generalize W1.drew = Y0 at *
              have HS := hideIt (drop_both m.a HPd.out hlen hHeld hmb ⟨by decide, by decide⟩)
              refine wpAnyH_ready (rs := [2]) (by kernel_rfl) (by simp) (AllReadyH.cons rfl (fun K hK => ?_) AllReadyH.nil)
              go_simp
              refine HS.out.mono ?_
              clear HS HPd HP1
              rintro e W2 ⟨c, rfl, hb2, hx2, hD⟩
              have HD := hideIt (hD W2 (Below.refl _ _))
              refine hK.out _ _ hx2 (fun hHeld => ?_)
              clear hK K hb2 hx2 hD
              refine wpAnyH_ready (rs := [6]) (by kernel_rfl) (by simp) (AllReadyH.cons rfl (fun K hK => ?_) AllReadyH.nil)
              go_simp
              refine HD.out.mono ?_
              clear HD
              rintro e W3 ⟨rfl, hgood⟩
              have HGd := hideIt hgood
              obtain ⟨nil3, n3, r3, lv3, v3, lvd3, vd3, Ld3, hp3, hl3, hx3⟩ := hgood
              have HBa := hideIt (HBr.out c W3 hp3.bel)
              have HP3 := hideIt hp3
              refine hK.out _ _ hx3 (fun hHeld => ?_)
              clear hK K hx3 hp3 HGd
              generalize toldV c = tv at *
              refine wpAnyH_ready (rs := [7]) (by kernel_rfl) (by simp) (AllReadyH.cons rfl (fun K hK => ?_) AllReadyH.nil)
              go_simp
              refine HBa.out.mono ?_
              rintro e W4 ⟨rfl, hb4⟩
              have hx4 : W4.heap[wr.heap.size]? = _ := (hb4.block _ (lt_of_heap hHeld)).trans hHeld
              have HR : Hid (∃ (nil : Bool) (n : Nat) (r : Nat → Nat → Bool) (lv v lvd vd : Value) (Ld : List Md), PlayI w W4 nil n r lv v lvd vd (Ld.map toQ) Ld ∧ Ld.length ≤ 500 ∧ W4.heap[wr.heap.size]? = some (.cells #[.int .i64 m.what, .int .i64 m.a, .int .i64 m.b, .int .i64 m.c] 44)) := ⟨nil3, n3, r3, lv3, v3, lvd3, vd3, Ld3, HP3.out.below hb4, hl3, hx4⟩
              refine hK.out _ _ hx4 (fun hHeld => ?_)
              clear hK K hb4 hx4 HBa HP3
              refine wpAnyH_take (i := 8) (v := ?_) rfl (by kernel_rfl) (by kernel_rfl) (by kernel_rfl) (fun _ _ _ h => h) (Or.inl ⟨by rfl, ?_⟩) (by assumption) ?_
              rotate_left 1
              · intro wz _
                go_simp
                all_goals with_reducible rfl
              simp only [Act.put, List.setIfInBounds_toArray, List.set_cons_zero, List.set_cons_succ, List.getElem_toArray, List.getElem_cons_zero, List.getElem_cons_succ]
              refine wpAnyH_done (by kernel_rfl) ?_ _
              go_wp2
              go_meet
              exact ⟨rfl, HR.out⟩
        | false =>
        cases g3 : (m.what == 3) with
        | true =>
          as_aux_lemma =>
              go_wp2_with fail
              refine wp_region_held_drew (S := fun Z => Z.heap[wr.heap.size]? = some (.cells #[.int .i64 m.what, .int .i64 m.a, .int .i64 m.b, .int .i64 m.c] 44)) (by kernel_rfl) HX.out (fun hHeld => ?_)
              refine wpAnyH_take (i := 0) (v := ?_) rfl (by kernel_rfl) (by kernel_rfl) (by kernel_rfl) (fun _ _ _ h => h) (Or.inl ⟨by rfl, ?_⟩) (by assumption) ?_
              rotate_left 1
              · intro wz _
                go_simp
                all_goals with_reducible rfl
              simp only [Act.put, List.setIfInBounds_toArray, List.set_cons_zero, List.set_cons_succ, List.getElem_toArray, List.getElem_cons_zero]
              refine wpAnyH_take (i := 1) (v := ?_) rfl (by kernel_rfl) (by kernel_rfl) (by kernel_rfl) (fun _ _ _ h => h) (Or.inl ⟨by rfl, ?_⟩) (by assumption) ?_
              rotate_left 1
              · intro wz sb
                obtain ⟨y0, y1, y2, y3⟩ := HY.out wz sb
                go_simp
                all_goals with_reducible rfl
              simp only [Act.put, List.setIfInBounds_toArray, List.set_cons_zero, List.set_cons_succ, List.getElem_toArray, List.getElem_cons_zero, List.getElem_cons_succ]
              refine wpAnyH_take (i := 3) (v := ?_) rfl (by kernel_rfl) (by kernel_rfl) (by kernel_rfl) (fun _ _ _ h => h) (Or.inl ⟨by rfl, ?_⟩) (by assumption) ?_
              rotate_left 1
              · intro wz _
                go_simp
                all_goals with_reducible rfl
              simp only [Act.put, List.setIfInBounds_toArray, List.set_cons_zero, List.set_cons_succ, List.getElem_toArray, List.getElem_cons_zero, List.getElem_cons_succ]
              refine wpAnyH_take (i := 4) (v := ?_) rfl (by kernel_rfl) (by kernel_rfl) (by kernel_rfl) (fun _ _ _ h => h) (Or.inl ⟨by rfl, ?_⟩) (by assumption) ?_
              rotate_left 1
              · intro wz _
                go_simp
                all_goals with_reducible rfl
              simp only [Act.put, List.setIfInBounds_toArray, List.set_cons_zero, List.set_cons_succ, List.getElem_toArray, List.getElem_cons_zero, List.getElem_cons_succ]
              refine wpAnyH_take (i := 5) (v := ?_) rfl (by kernel_rfl) (by kernel_rfl) (by kernel_rfl) (fun _ _ _ h => h) (Or.inl ⟨by rfl, ?_⟩) (by assumption) ?_
              rotate_left 1
              · intro wz sb
                obtain ⟨y0, y1, y2, y3⟩ := HY.out wz sb
                go_simp
                all_goals with_reducible rfl
              simp only [Act.put, List.setIfInBounds_toArray, List.set_cons_zero, List.set_cons_succ, List.getElem_toArray, List.getElem_cons_zero, List.getElem_cons_succ]
              have HPd := hideIt (HP1.out.below ((Below.refl _ _).drew))
              generalize W1.drew = Y0 at *
              have HS := hideIt (double_both m.a HPd.out hlen hHeld hmb ⟨by decide, by decide⟩)
              refine wpAnyH_ready (rs := [2]) (by kernel_rfl) (by simp) (AllReadyH.cons rfl (fun K hK => ?_) AllReadyH.nil)
              go_simp
              refine HS.out.mono ?_
              clear HS HPd HP1
              rintro e W2 ⟨c, rfl, hb2, hx2, hD⟩
              have HD := hideIt (hD W2 (Below.refl _ _))
              refine hK.out _ _ hx2 (fun hHeld => ?_)
              clear hK K hb2 hx2 hD
              refine wpAnyH_ready (rs := [6]) (by kernel_rfl) (by simp) (AllReadyH.cons rfl (fun K hK => ?_) AllReadyH.nil)
              go_simp
              refine HD.out.mono ?_
              clear HD
              rintro e W3 ⟨rfl, hgood⟩
              have HGd := hideIt hgood
              obtain ⟨nil3, n3, r3, lv3, v3, lvd3, vd3, Ld3, hp3, hl3, hx3⟩ := hgood
              have HBa := hideIt (HBr.out c W3 hp3.bel)
              have HP3 := hideIt hp3
              refine hK.out _ _ hx3 (fun hHeld => ?_)
              clear hK K hx3 hp3 HGd
              generalize toldV c = tv at *
              refine wpAnyH_ready (rs := [7]) (by kernel_rfl) (by simp) (AllReadyH.cons rfl (fun K hK => ?_) AllReadyH.nil)
              go_simp
              refine HBa.out.mono ?_
              rintro e W4 ⟨rfl, hb4⟩
              have hx4 : W4.heap[wr.heap.size]? = _ := (hb4.block _ (lt_of_heap hHeld)).trans hHeld
              have HR : Hid (∃ (nil : Bool) (n : Nat) (r : Nat → Nat → Bool) (lv v lvd vd : Value) (Ld : List Md), PlayI w W4 nil n r lv v lvd vd (Ld.map toQ) Ld ∧ Ld.length ≤ 500 ∧ W4.heap[wr.heap.size]? = some (.cells #[.int .i64 m.what, .int .i64 m.a, .int .i64 m.b, .int .i64 m.c] 44)) := ⟨nil3, n3, r3, lv3, v3, lvd3, vd3, Ld3, HP3.out.below hb4, hl3, hx4⟩
              refine hK.out _ _ hx4 (fun hHeld => ?_)
              clear hK K hb4 hx4 HBa HP3
              refine wpAnyH_take (i := 8) (v := ?_) rfl (by kernel_rfl) (by kernel_rfl) (by kernel_rfl) (fun _ _ _ h => h) (Or.inl ⟨by rfl, ?_⟩) (by assumption) ?_
              rotate_left 1
              · intro wz _
                go_simp
                all_goals with_reducible rfl
              simp only [Act.put, List.setIfInBounds_toArray, List.set_cons_zero, List.set_cons_succ, List.getElem_toArray, List.getElem_cons_zero, List.getElem_cons_succ]
              refine wpAnyH_done (by kernel_rfl) ?_ _
              go_wp2
              go_meet
              exact ⟨rfl, HR.out⟩
        | false =>
        cases g4 : (m.what == 4) with
        | true =>
          as_aux_lemma =>
              have HCt := hideIt (pcut_nil _ _ _ _ _ _ W1 HP1.out.pn (HP1.out.pf 1))
              go_wp2_with fail
              refine HCt.out.mono ?_
              clear HCt
              rintro e W2 ⟨rfl, w1, hb2, rfl⟩
              simp only [Nat.zero_add]
              have HR0 := hideIt (HP1.out.all hb2)
              have hX1 : w1.heap[wr.heap.size]? = some (.cells #[.int .i64 m.what, .int .i64 m.a, .int .i64 m.b, .int .i64 m.c] 44) := (hb2.block _ (lt_of_heap HX.out)).trans HX.out
              have HR : Hid (∃ (nil : Bool) (n : Nat) (r : Nat → Nat → Bool) (lv v lvd vd : Value) (Ld : List Md), PlayI w ((w1.setCell ⟨w.heap.size, 1, none⟩ (.slice none 0 0)).setCell ⟨w.heap.size + 1, 0, none⟩ (.bool false)) nil n r lv v lvd vd (Ld.map toQ) Ld ∧ Ld.length ≤ 500 ∧ ((w1.setCell ⟨w.heap.size, 1, none⟩ (.slice none 0 0)).setCell ⟨w.heap.size + 1, 0, none⟩ (.bool false)).heap[wr.heap.size]? = some (.cells #[.int .i64 m.what, .int .i64 m.a, .int .i64 m.b, .int .i64 m.c] 44)) :=
                ⟨true, _, _, _, _, _, _, Ld, HR0.out, hlen, (Below.heap_setCell _ ⟨w.heap.size + 1, 0, none⟩ _ _ (show wr.heap.size ≠ w.heap.size + 1 by omega)).trans ((Below.heap_setCell _ ⟨w.heap.size, 1, none⟩ _ _ (show wr.heap.size ≠ w.heap.size by omega)).trans hX1)⟩
              have hP2 := HP1.out.below hb2
              have e1 : (w1.setCell ⟨w.heap.size, 1, none⟩ (.slice none 0 0)).heap[w.heap.size + 1]? = w1.heap[w.heap.size + 1]? := Below.heap_setCell w1 ⟨w.heap.size, 1, none⟩ _ _ (show w.heap.size + 1 ≠ w.heap.size by omega)
              have cc : (w1.setCell ⟨w.heap.size, 1, none⟩ (.slice none 0 0)).cell? ⟨w.heap.size + 1, 0, none⟩ = some (.bool (!nil)) := (World.cell?_of_block (a := ⟨w.heap.size + 1, 0, none⟩) e1).trans hP2.dn.c0
              have cf : (w1.setCell ⟨w.heap.size, 1, none⟩ (.slice none 0 0)).frozen? ⟨w.heap.size + 1, 0, none⟩ = false := (World.frozen?_of_block (a := ⟨w.heap.size + 1, 0, none⟩) e1).trans (hP2.df 0)
              clear hP2 e1 HR0 hX1 hb2 HP1
              generalize (!nil) = bo at cc
              generalize w1.setCell ⟨w.heap.size, 1, none⟩ (.slice none 0 0) = W2 at *
              go_wp2
              go_meet
              exact ⟨rfl, HR.out⟩
        | false =>
        cases g5 : (m.what == 5) with
        | true =>
          as_aux_lemma =>
              obtain ⟨q0, q1, q2, q3⟩ := HY.out W1 HX.out
              have HHv := hideIt (halves_any m.a 0 W1)
              go_wp2_with fail
              refine HHv.out.mono ?_
              clear HHv
              rintro e W2 (⟨hbad, rfl, hb2⟩ | ⟨nn, hnn, hn7, l, rfl, hl, hb2⟩)
              · have HP2 := hideIt (HP1.out.below hb2)
                unfold badV
                clear hb2 HP1
                go_wp2
                exact ⟨⟨i + 1, nil, n, r, lv, v, lvd, vd, Ld, by omega, by simp, HP2.out, hlen⟩, by simp [intOf]; omega⟩
              · have HCt := hideIt (pcut_any nn ⟨hn7.1, by omega⟩ _ _ l _ _ _ _ _ _ W2 (HP1.out.below hb2).pn ((HP1.out.below hb2).pf 1) hl)
                have HL := hideIt hl
                have HB2 := hideIt hb2
                clear hb2 hl q0 q1 q2 q3
                go_wp2_with fail
                refine HCt.out.mono ?_
                clear HCt
                rintro e W3 ⟨rfl, lp, w1, hb3, rfl, hlp, ⟨pa, pn, pc, rfl⟩⟩
                obtain ⟨la, lc, rfl, hlr⟩ := HL.out
                simp only [Nat.zero_add]
                have hb13 := HB2.out.trans (hb3.mono HB2.out.size)
                have HR0 := hideIt (HP1.out.some_ hb13 hn7 (LnkS.mono hlp fun _ _ h => h.2) ⟨_, _, _, rfl⟩ (LnkT.below (LnkS.mono HL.out fun _ _ h => h.2) hb3))
                have hX1 : w1.heap[wr.heap.size]? = some (.cells #[.int .i64 m.what, .int .i64 m.a, .int .i64 m.b, .int .i64 m.c] 44) := (hb13.block _ (lt_of_heap HX.out)).trans HX.out
                have hP2 := HP1.out.below hb13
                have e1 : (w1.setCell ⟨w.heap.size, 1, none⟩ (.slice (some pa) pn pc)).heap[w.heap.size + 1]? = w1.heap[w.heap.size + 1]? := Below.heap_setCell w1 ⟨w.heap.size, 1, none⟩ _ _ (show w.heap.size + 1 ≠ w.heap.size by omega)
                have cc : (w1.setCell ⟨w.heap.size, 1, none⟩ (.slice (some pa) pn pc)).cell? ⟨w.heap.size + 1, 0, none⟩ = some (.bool (!nil)) := (World.cell?_of_block (a := ⟨w.heap.size + 1, 0, none⟩) e1).trans hP2.dn.c0
                have cd : (w1.setCell ⟨w.heap.size, 1, none⟩ (.slice (some pa) pn pc)).cell? ⟨w.heap.size + 1, 1, none⟩ = some lvd := (World.cell?_of_block (a := ⟨w.heap.size + 1, 1, none⟩) e1).trans hP2.dn.c1
                have cf : (w1.setCell ⟨w.heap.size, 1, none⟩ (.slice (some pa) pn pc)).frozen? ⟨w.heap.size + 1, 0, none⟩ = false := (World.frozen?_of_block (a := ⟨w.heap.size + 1, 0, none⟩) e1).trans (hP2.df 0)
                have cg : (w1.setCell ⟨w.heap.size, 1, none⟩ (.slice (some pa) pn pc)).frozen? ⟨w.heap.size + 1, 1, none⟩ = false := (World.frozen?_of_block (a := ⟨w.heap.size + 1, 1, none⟩) e1).trans (hP2.df 1)
                have hX2 : (w1.setCell ⟨w.heap.size, 1, none⟩ (.slice (some pa) pn pc)).heap[wr.heap.size]? = some (.cells #[.int .i64 m.what, .int .i64 m.a, .int .i64 m.b, .int .i64 m.c] 44) := (Below.heap_setCell _ ⟨w.heap.size, 1, none⟩ _ _ (show wr.heap.size ≠ w.heap.size by omega)).trans hX1
                have HX2 := hideIt hX2
                clear hP2 e1 hX1 hX2 hb3 hb13 HP1 HB2 hlp HX hlr
                generalize (!nil) = bo at cc
                generalize w1.setCell ⟨w.heap.size, 1, none⟩ (.slice (some pa) pn pc) = W2 at *
                have HR : Hid (∃ (nil : Bool) (n : Nat) (r : Nat → Nat → Bool) (lv v lvd vd : Value) (Ld : List Md), PlayI w ((W2.setCell ⟨w.heap.size + 1, 0, none⟩ (.bool true)).setCell ⟨w.heap.size + 1, 1, none⟩ (.slice la (tabL nn (linkN 1 nn 0)).length lc)) nil n r lv v lvd vd (Ld.map toQ) Ld ∧ Ld.length ≤ 500 ∧ ((W2.setCell ⟨w.heap.size + 1, 0, none⟩ (.bool true)).setCell ⟨w.heap.size + 1, 1, none⟩ (.slice la (tabL nn (linkN 1 nn 0)).length lc)).heap[wr.heap.size]? = some (.cells #[.int .i64 m.what, .int .i64 m.a, .int .i64 m.b, .int .i64 m.c] 44)) :=
                  ⟨false, _, _, _, _, _, _, Ld, HR0.out, hlen, (Below.heap_setCell _ ⟨w.heap.size + 1, 1, none⟩ _ _ (show wr.heap.size ≠ w.heap.size + 1 by omega)).trans ((Below.heap_setCell _ ⟨w.heap.size + 1, 0, none⟩ _ _ (show wr.heap.size ≠ w.heap.size + 1 by omega)).trans HX2.out)⟩
                clear HR0 HX2 HL
                generalize (tabL nn (linkN 1 nn 0)).length = ln at *
                go_wp2
                go_meet
                exact ⟨rfl, HR.out⟩
        | false =>
          have HR : Hid (∃ (nil : Bool) (n : Nat) (r : Nat → Nat → Bool) (lv v lvd vd : Value) (Ld : List Md), PlayI w W1 nil n r lv v lvd vd (Ld.map toQ) Ld ∧ Ld.length ≤ 500 ∧ W1.heap[wr.heap.size]? = some (.cells #[.int .i64 m.what, .int .i64 m.a, .int .i64 m.b, .int .i64 m.c] 44)) := ⟨nil, n, r, lv, v, lvd, vd, Ld, HP1.out, hlen, HX.out⟩
          go_wp2
          go_meet
          exact ⟨rfl, HR.out⟩
      case rest =>
        obtain ⟨rfl, nil, n, r, lv, v, lvd, vd, Ld, hp, hlen, hx⟩ := hcut
        have HP2 := hideIt hp
        have HX2 := hideIt hx
        have HA := hideIt (pat_any m.a _ _ _ _ _ _ wc hp.pn)
        have hmb : wr.heap.size < wc.heap.size := lt_of_heap hx
        have d1 : wc.cell? ⟨wr.heap.size, 1, none⟩ = some (.int .i64 m.a) := by rw [cell_of_row _ _ _ _ 44 _ hx]; rfl
        clear hp hx HX HP1 HP HB1 x0 x1 x2 x3
        go_wp2_with fail
        refine HA.out.mono ?_
        clear HA
        rintro e W3 ⟨hat, hb⟩
        have HAll : Hid (∀ M : Mq, PlayI w (W3.alloc (.cells #[.int .i64 M.fr, .int .i64 M.tt, .int .i64 M.wh] 47)) nil n r lv v lvd vd (Ld.map toQ) Ld ∧ (W3.alloc (.cells #[.int .i64 M.fr, .int .i64 M.tt, .int .i64 M.wh] 47)).cell? ⟨wr.heap.size, 1, none⟩ = some (.int .i64 m.a) ∧ (W3.alloc (.cells #[.int .i64 M.fr, .int .i64 M.tt, .int .i64 M.wh] 47)).heap[W3.heap.size]? = some (.cells #[.int .i64 M.fr, .int .i64 M.tt, .int .i64 M.wh] 47)) := fun M =>
          ⟨HP2.out.below (belA hb _), ((belA hb (.cells #[.int .i64 M.fr, .int .i64 M.tt, .int .i64 M.wh] 47)).cell (p := ⟨wr.heap.size, 1, none⟩) hmb).trans d1, heap_alloc_new W3 _⟩
        rcases hat with ⟨hbad, rfl⟩ | ⟨k, M, hk, hM, rfl⟩
        · have HBad := hideIt hbad
          rw [List.length_map] at hbad
          unfold mqV mq0
          obtain ⟨hp4, e4, _⟩ := HAll.out mq0
          unfold mq0 at hp4 e4
          have HP4 := hideIt hp4
          clear hp4 HAll hb
          go_upto_region 30 with fail
          generalize W3.alloc _ = W4 at *
          have c2 : W4.cell? ⟨w.heap.size + 1, 2, none⟩ = some vd := HP4.out.dn.c2
          obtain ⟨va, vc, rfl⟩ := HP4.out.dn.slice
          have HWt : Hid (∀ q : Nat, Calls Tryd.prog 21 #[.pointer (some ⟨w.heap.size, 0, none⟩)] (W4.drewN q) fun e w' => e = .returned (.int .i64 (Ld.length : Int)) ∧ w' = W4.drewN q) := fun q => by
            have := pwait_any _ _ _ _ _ _ (W4.drewN q) (HP4.out.pn.below (below_drewN (Below.refl _ _) q))
            rwa [List.length_map] at this
          have g5 : ((Ld.length : Int) != (Ld.length : Int)) = false := by simp
          have HE : Hid (∀ q, PlayI w (W4.drewN q) nil n r lv v lvd (.slice va Ld.length vc) (Ld.map toQ) Ld) := fun q => HP4.out.below (below_drewN (Below.refl _ _) q)
          by_cases h0 : m.a < 0
          · have g1 : decide (m.a ≥ 0) = false := decide_eq_false (by omega)
            go_quiet (fail)
            go_wp2_with fail
            generalize hW5 : W4.drewN _ = W5
            have HP5 : Hid (PlayI w W5 nil n r lv v lvd (.slice va Ld.length vc) (Ld.map toQ) Ld) := by rw [← hW5]; exact HE.out _
            have c5 : W5.cell? ⟨w.heap.size + 1, 2, none⟩ = some (.slice va Ld.length vc) := HP5.out.dn.c2
            have e5 : W5.cell? ⟨wr.heap.size, 1, none⟩ = some (.int .i64 m.a) := by rw [← hW5]; exact e4
            have HW5 : Hid (∀ q : Nat, Calls Tryd.prog 21 #[.pointer (some ⟨w.heap.size, 0, none⟩)] (W5.drewN q) fun e w' => e = .returned (.int .i64 (Ld.length : Int)) ∧ w' = W5.drewN q) := fun q => by
              have := pwait_any _ _ _ _ _ _ (W5.drewN q) (HP5.out.pn.below (below_drewN (Below.refl _ _) q))
              rwa [List.length_map] at this
            have HE5 : Hid (∀ q, PlayI w (W5.drewN q) nil n r lv v lvd (.slice va Ld.length vc) (Ld.map toQ) Ld) := fun q => HP5.out.below (below_drewN (Below.refl _ _) q)
            clear hW5 c2 e4 HWt HE HP4 HP5
            go_quiet ((go_at_call 21; exact Calls.quiet_of_same (HW5.out _)))
            go_wp2
            go_roundw
            case rel => exact ⟨i + 1, nil, n, r, lv, v, lvd, _, Ld, by omega, by go_num, HE5.out _, hlen⟩
            case measure => simp [intOf]; omega
          · have g1 : decide (m.a ≥ 0) = true := decide_eq_true (by omega)
            have g2 : decide (m.a < (Ld.length : Int)) = false := decide_eq_false (by omega)
            go_quiet (fail)
            go_wp2_with fail
            generalize hW5 : W4.drewN _ = W5
            have HP5 : Hid (PlayI w W5 nil n r lv v lvd (.slice va Ld.length vc) (Ld.map toQ) Ld) := by rw [← hW5]; exact HE.out _
            have c5 : W5.cell? ⟨w.heap.size + 1, 2, none⟩ = some (.slice va Ld.length vc) := HP5.out.dn.c2
            have e5 : W5.cell? ⟨wr.heap.size, 1, none⟩ = some (.int .i64 m.a) := by rw [← hW5]; exact e4
            have HW5 : Hid (∀ q : Nat, Calls Tryd.prog 21 #[.pointer (some ⟨w.heap.size, 0, none⟩)] (W5.drewN q) fun e w' => e = .returned (.int .i64 (Ld.length : Int)) ∧ w' = W5.drewN q) := fun q => by
              have := pwait_any _ _ _ _ _ _ (W5.drewN q) (HP5.out.pn.below (below_drewN (Below.refl _ _) q))
              rwa [List.length_map] at this
            have HE5 : Hid (∀ q, PlayI w (W5.drewN q) nil n r lv v lvd (.slice va Ld.length vc) (Ld.map toQ) Ld) := fun q => HP5.out.below (below_drewN (Below.refl _ _) q)
            clear hW5 c2 e4 HWt HE HP4 HP5
            go_quiet ((go_at_call 21; exact Calls.quiet_of_same (HW5.out _)))
            go_wp2
            go_roundw
            case rel => exact ⟨i + 1, nil, n, r, lv, v, lvd, _, Ld, by omega, by go_num, HE5.out _, hlen⟩
            case measure => simp [intOf]; omega
        · have hkl : k < Ld.length := by have := (List.getElem?_eq_some_iff.1 hM).1; rwa [List.length_map] at this
          obtain ⟨md, hmd⟩ : ∃ md, Ld[k]? = some md := ⟨_, List.getElem?_eq_getElem hkl⟩
          have hMq : M = toQ md := by
            rw [List.getElem?_map, hmd] at hM
            exact (Option.some.inj hM).symm
          subst hMq
          have HMd := hideIt hmd
          unfold mqV toQ
          obtain ⟨hp4, e4, hb4⟩ := HAll.out (toQ md)
          unfold toQ at hp4 e4 hb4
          have HP4 := hideIt hp4
          have HB4 := hideIt hb4
          clear hp4 HAll hb hb4 hM hmd
          go_upto_region 30 with fail
          generalize W3.alloc _ = W4 at *
          have c2 : W4.cell? ⟨w.heap.size + 1, 2, none⟩ = some vd := HP4.out.dn.c2
          obtain ⟨va, vc, rfl⟩ := HP4.out.dn.slice
          have HWt : Hid (∀ q : Nat, Calls Tryd.prog 21 #[.pointer (some ⟨w.heap.size, 0, none⟩)] (W4.drewN q) fun e w' => e = .returned (.int .i64 (Ld.length : Int)) ∧ w' = W4.drewN q) := fun q => by
            have := pwait_any _ _ _ _ _ _ (W4.drewN q) (HP4.out.pn.below (below_drewN (Below.refl _ _) q))
            rwa [List.length_map] at this
          have g5 : ((Ld.length : Int) != (Ld.length : Int)) = false := by simp
          have HE : Hid (∀ q, PlayI w (W4.drewN q) nil n r lv v lvd (.slice va Ld.length vc) (Ld.map toQ) Ld) := fun q => HP4.out.below (below_drewN (Below.refl _ _) q)
          have g1 : decide (m.a ≥ 0) = true := decide_eq_true (by omega)
          have g2 : decide (m.a < (Ld.length : Int)) = true := decide_eq_true (by omega)
          have n0 : (md.fr != md.fr) = false := by simp
          have n1 : (md.to != md.to) = false := by simp
          have n2 : (md.wh != md.wh) = false := by simp
          have hkL : (k : Int) < (Ld.length : Int) := by omega
          have hk0 : (0 : Int) ≤ (k : Int) := by omega
          rw [hk] at *
          clear hk
          go_quiet (fail)
          go_wp2_with fail
          generalize hW5 : W4.drewN _ = W5
          have HP5 : Hid (PlayI w W5 nil n r lv v lvd (.slice va Ld.length vc) (Ld.map toQ) Ld) := by rw [← hW5]; exact HE.out _
          have c5 : W5.cell? ⟨w.heap.size + 1, 2, none⟩ = some (.slice va Ld.length vc) := HP5.out.dn.c2
          have e5 : W5.cell? ⟨wr.heap.size, 1, none⟩ = some (.int .i64 (k : Int)) := by rw [← hW5]; exact e4
          obtain ⟨z0, z1, z2⟩ : W5.cell? ⟨W3.heap.size, 0, none⟩ = some (.int .i64 md.fr) ∧ W5.cell? ⟨W3.heap.size, 1, none⟩ = some (.int .i64 md.to) ∧ W5.cell? ⟨W3.heap.size, 2, none⟩ = some (.int .i64 md.wh) := by rw [← hW5]; exact blk3 HB4.out
          obtain ⟨gd, capd, hvd, y0, y1, y2⟩ := doc_at HP5.out.dn HMd.out
          cases hvd
          have HW5 : Hid (∀ q : Nat, Calls Tryd.prog 21 #[.pointer (some ⟨w.heap.size, 0, none⟩)] (W5.drewN q) fun e w' => e = .returned (.int .i64 (Ld.length : Int)) ∧ w' = W5.drewN q) := fun q => by
            have := pwait_any _ _ _ _ _ _ (W5.drewN q) (HP5.out.pn.below (below_drewN (Below.refl _ _) q))
            rwa [List.length_map] at this
          have HE5 : Hid (∀ q, PlayI w (W5.drewN q) nil n r lv v lvd _ (Ld.map toQ) Ld) := fun q => HP5.out.below (below_drewN (Below.refl _ _) q)
          clear hW5 c2 e4 HWt HE HP4 HP5
          go_quiet ((go_at_call 21; exact Calls.quiet_of_same (HW5.out _)))
          go_wp2
          go_roundw
          case rel => exact ⟨i + 1, nil, n, r, lv, v, lvd, _, Ld, by omega, by go_num, HE5.out _, hlen⟩
          case measure => simp [intOf]; omega
    · have hil' : ¬ (i : Int) < (l.length : Int) := by omega
      go_wp2
      go_ret
      exact ⟨rfl, HP.out.bel⟩
end Go.Proofs.YtggdjongbmdefaaDoor
