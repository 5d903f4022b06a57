/-
  end, walked: a transaction is over, and commits if it may.
-/
import Derived.Test.YtaopigjhdkdklaaDoorVsWZ
import Derived.Test.YtaopigjhdkdklaaDoorPtW
namespace Go.Proofs.YtaopigjhdkdklaaDoor
open Go.RowKit Go.Shelf

/-- What end tells and leaves. -/
def EndTold (w0 W : World) (k : PrK) (c : Bool) (n : Nat) (s : MvS) (t : Nat) (r : Bool) (e : Ending) (W' : World) : Prop := ∃ k', e = .returned (toldV (if r = true then 12 else 0)) ∧ PrB w0 W' k' c n (if r = true then { s with ov := updM s.ov t true } else comS { s with ov := updM s.ov t true } t) ∧ PFr k n W W' k'
section
variable {w0 W : World} {k : PrK} {c : Bool} {n : Nat} {s : MvS}
theorem updM_back {α : Type} (f : Nat → α) {t : Nat} {x z : α} (h : f t = z) : updM (updM f t x) t z = f := by
  funext u
  by_cases e : u = t
  · subst e; rw [updM_same, h]
  · rw [updM_ne _ _ e, updM_ne _ _ e]

set_option maxRecDepth 100000 in
set_option maxHeartbeats 8000000 in
theorem end_any (h : PrB w0 W k c n s) (hn : n ≤ 8) (hl : ∀ t, (s.ops t).length ≤ 60) (hm : ∀ q, q < 8 → ∀ x ∈ s.ord q, x < n) (ho : ∀ q, q < 8 → (s.ord q).length ≤ 999) {t : Nat} (ht : t < n) (hen : s.en t = -1) (hE : EnOk { s with en := updM s.en t s.tm }) :
    Calls Tryd.prog 27 #[.pointer (some ⟨k.B, 0, none⟩), .int .i64 (t : Int)] W fun e W' => EndTold w0 W k c n s t (refS c n s t) e W' := by
  have htI : (t : Int) < (n : Int) := by omega
  have h1 := h.setOv ht
  have hf1 : PFr k n W (W.setCell ⟨k.T, t * 4 + 3, none⟩ (.bool true)) k := PFr.set (p := ⟨k.T, t * 4 + 3, none⟩) (.inr (.inl rfl)) _
  have HP1 := hideIt h1
  have HF1 := hideIt hf1
  have HLt := hideIt (isLate_any h1 hl ht hm ho)
  have HL := hideIt hl
  have HEn := hideIt hE
  have HOl := hideIt ho
  have c2 := h.cells.2.2.1
  have x3 := (h.tx t ht).2.2.2
  have f3 := h.fzT (t * 4 + 3)
  have hB := h.lt
  have hT := h.ltT
  have e1 : oldP { s with ov := updM s.ov t true } t 8 = oldP s t 8 := rfl
  rw [e1] at HLt
  have HRf : Hid (oldP s t 8 = true → refS c n s t = true) := fun h => by unfold refS; rw [h]; rfl
  have HRp : Hid ((c && pivP s (updM s.en t s.tm) n t n) = true → refS c n s t = true) := fun h => by unfold refS; rw [h, Bool.or_true]
  have HRn : Hid (oldP s t 8 = false → (c && pivP s (updM s.en t s.tm) n t n) = false → refS c n s t = false) := fun h1 h2 => by unfold refS; rw [h1, h2]; rfl
  have t12 : toldV 12 = .iface 29 (.int .i64 12) := rfl
  have t0 : toldV 0 = .nilIface := rfl
  clear h h1 hf1 hl hE hm ho e1
  generalize hR : refS c n s t = R at *
  clear hR
  go_enter Tryd.func27, Tryd.ntmps27
  go_wp2_with fail
  refine HLt.out.mono ?_
  rintro e W1 ⟨rfl, hb1⟩
  have hp1 := HP1.out.below hb1
  have HF2 := hideIt (HF1.out.trans (PFr.below hb1))
  have HP2 := hideIt hp1
  clear HLt HP1 HF1 x3 f3 c2 hb1
  cases hlate : oldP s t 8
  rotate_left 1
  · have HE : Hid (R = true) := HRf.out hlate
    clear hp1 hlate HRp HRn HRf
    go_wp2
    go_ret
    exact ⟨k, by rw [HE.out, if_pos rfl, t12]; rfl, by rw [HE.out, if_pos rfl]; exact HP2.out, HF2.out⟩
  have HLa := hideIt hlate
  have q1 := hp1.cells.2.1
  have y2 := (hp1.tx t ht).2.2.1
  have f2 := hp1.fzT (t * 4 + 2)
  have h2 := hp1.setEn ht s.tm
  have HP3 := hideIt h2
  have HF3 := hideIt (HF2.out.trans (PFr.set (p := ⟨k.T, t * 4 + 2, none⟩) (.inr (.inl rfl)) (.int .i64 s.tm)))
  have q0 := h2.cells.1
  have hB1 := hp1.lt
  have hT1 := hp1.ltT
  have y2n := (h2.tx t ht).2.2.1
  have f2n := h2.fzT (t * 4 + 2)
  have hPv := hasPivot_any h2 HL.out hn HEn.out ht _ (Below.refl _ _)
  have HPv : Hid (Calls Tryd.prog 58 #[.pointer (some ⟨k.B, 0, none⟩), .int .i64 (t : Int)] (W1.setCell ⟨k.T, t * 4 + 2, none⟩ (.int .i64 s.tm)) fun e w' => e = .returned (.bool (pivP s (updM s.en t s.tm) n t n)) ∧ Below (W1.setCell ⟨k.T, t * 4 + 2, none⟩ (.int .i64 s.tm)).heap.size (W1.setCell ⟨k.T, t * 4 + 2, none⟩ (.int .i64 s.tm)) w') := hPv
  clear hPv h2 hp1 hlate HRf
  cases c
  · have HRV : Hid (R = false) := HRn.out HLa.out rfl
    have HPV := HP3
    have HFV := HF3
    clear HPv HRp HRn HP2 HF2 HP3 HF3
    go_wp2_with fail
    go_loopw [40] (fun v wr => ∃ q : Nat, q ≤ 8 ∧ v = .int .i64 q ∧ ∃ k1 : PrK, k1.B = k.B ∧ k1.T = k.T ∧ PrB w0 wr k1 false n (comJ { s with ov := updM s.ov t true } t q) ∧ PFr k n W wr k1) (fun v _ => 8 - (intOf v).toNat)
    case atStart => exact ⟨0, by omega, rfl, k, rfl, rfl, PrB.same (st' := comJ { s with ov := updM s.ov t true } t 0) HPV.out rfl (fun _ _ => ⟨rfl, rfl, rfl, rfl⟩) (fun q hq => by
        show ordJ { s with ov := updM s.ov t true } t 0 q = s.ord q
        unfold ordJ
        exact if_neg (fun h => absurd h.1 (by omega))), HFV.out⟩
    case round =>
      clear HPV HFV
      obtain ⟨q, hq, rfl, k1, eB, eT, hp, hf⟩ := hrel
      have HPq := hideIt hp
      have HFq := hideIt hf
      have HeB := hideIt eB
      have HeT := hideIt eT
      by_cases hq8 : q < 8
      · have hq8' : (q : Int) < 8 := by omega
        have hwr := hp.writes HL.out ht (q : Int) wr (Below.refl _ _)
        rw [eT] at hwr
        have HWr : Hid (Calls Tryd.prog 54 #[.pointer (some ⟨k.T, t * 4, none⟩), .int .i64 (q : Int)] wr fun e w' => e = .returned (.int .i64 (wrN (s.ops t) q : Nat)) ∧ Below wr.heap.size wr w') := hwr
        clear hwr hp hf eB eT
        go_wp2_with fail
        refine HWr.out.mono ?_
        rintro e W9 ⟨rfl, hb9⟩
        have HB9 := hideIt hb9
        clear HWr hb9
        by_cases hw : 0 < wrN (s.ops t) q
        · have dw : decide ((0 : Int) < (wrN (s.ops t) q : Int)) = true := decide_eq_true (by omega)
          have HPut := hideIt (comJ_put (s := { s with ov := updM s.ov t true }) (t := t) (j := q) hw)
          have hd9 := HPq.out.below HB9.out
          have hbA : Below W9.heap.size W9 (W9.alloc (.cells #[.int .i64 (t : Int)] 3)).drew := (belA (Below.refl _ _) _).drew
          have hdA := hd9.below hbA
          have hsz : (W9.alloc (.cells #[.int .i64 (t : Int)] 3)).drew.heap.size = W9.heap.size + 1 := by
            show (W9.alloc (.cells #[.int .i64 (t : Int)] 3)).heap.size = _
            simp
          have hnw : (W9.alloc (.cells #[.int .i64 (t : Int)] 3)).drew.cell? ⟨W9.heap.size, 0, none⟩ = some (.int .i64 (t : Int)) := cell_of_row _ _ _ _ 3 (0, 0) (heap_alloc_new W9 _)
          obtain ⟨v', W10, hr, ho, hg, hv⟩ := run_appI (hdA.rw_ q hq8) hnw (by rw [hsz]; have := hd9.bel.size; omega) (by
            show (ordJ { s with ov := updM s.ov t true } t q q).length ≤ 1000
            rw [ordJ_own]
            have := HOl.out q hq8
            show (s.ord q).length ≤ 1000
            omega) 52
          obtain ⟨va', vc', rfl⟩ := ownsRow_slice ho
          obtain ⟨hd10, hf10⟩ := hdA.pushR hq8 ho hg hv
          rw [HPut.out] at hd10
          have R1 := hideIt hd10
          have R2 := hideIt (HFq.out.trans ((PFr.below (belJ HB9.out hbA)).trans hf10))
          have HR := hideIt hr
          have u1 := hd9.cells.2.2.2 q hq8
          have hBl := hd9.lt
          have hBb : W10.heap[k1.B]? = (W9.alloc (.cells #[.int .i64 (t : Int)] 3)).drew.heap[k1.B]? := hg.block _ (by rw [hsz]; omega) fun e => ne_tagD hdA.tag.1 (hdA.tagv.2 q hq8 _ e.symm) (by decide) rfl
          have s0 : W10.cell? ⟨k1.B, 3 + q, none⟩ = some (k1.vr q) := (World.cell?_of_block (a := ⟨k1.B, 3 + q, none⟩) hBb).trans (hdA.cells.2.2.2 q hq8)
          have s1 : W10.frozen? ⟨k1.B, 3 + q, none⟩ = false := (World.frozen?_of_block (a := ⟨k1.B, 3 + q, none⟩) hBb).trans (hdA.fz _)
          rw [HeB.out] at u1 s0 s1 hBl R1 R2
          have hx1 : ¬ k.B = W9.heap.size := by omega
          have hx2 : ¬ W9.heap.size = k.B := by omega
          clear hd9 hbA hdA hsz hnw hr ho hg hv hd10 hf10 hBb HPut
          generalize ((comJ { s with ov := updM s.ov t true } t q).ord q ++ [t]).length = ln at *
          generalize k1.vr q = vq at *
          go_upto_region 13 with fail
          refine wp_region_L (B := [14]) (S := (fun _ => True)) (T := (fun w' => w'.cell? ⟨k.B, 3 + q, none⟩ = some vq)) (by kernel_rfl) ⟨trivial, u1⟩ (fun hHeld => ?_)
          refine wpAnyL_take [11, 12, 13, 14] (i := 0) (v := ?_) rfl (by kernel_rfl) (by kernel_rfl) (by kernel_rfl) (by kernel_rfl) (fun _ _ _ h => h) (Or.inl ⟨by rfl, ?_⟩) (by assumption) ?_
          rotate_left 1
          · intro wz ⟨_, y0⟩
            go_simp
            all_goals with_reducible rfl
          simp only [Act.put, List.setIfInBounds_toArray, List.set_cons_zero, List.set_cons_succ, List.getElem_toArray, List.getElem_cons_zero]
          refine wpAnyL_take [13, 14] (i := 1) (v := ?_) rfl (by kernel_rfl) (by kernel_rfl) (by kernel_rfl) (by kernel_rfl) (fun _ _ _ h => h) (Or.inl ⟨by rfl, ?_⟩) (by assumption) ?_
          rotate_left 1
          · intro wz ⟨_, y0⟩
            go_simp
            all_goals with_reducible rfl
          simp only [Act.put, List.setIfInBounds_toArray, List.set_cons_zero, List.set_cons_succ, List.getElem_toArray, List.getElem_cons_zero, List.getElem_cons_succ]
          refine wpAnyL_take [4, 5, 6, 7, 10, 14] (i := 2) (v := ?_) rfl (by kernel_rfl) (by kernel_rfl) (by kernel_rfl) (by kernel_rfl) (fun _ _ _ h => h) (Or.inl ⟨by rfl, ?_⟩) (by assumption) ?_
          rotate_left 1
          · intro wz ⟨_, y0⟩
            go_simp
            all_goals with_reducible rfl
          simp only [Act.put, List.setIfInBounds_toArray, List.set_cons_zero, List.set_cons_succ, List.getElem_toArray, List.getElem_cons_zero, List.getElem_cons_succ]
          refine wpAnyL_take [6, 7, 10, 14] (i := 3) (v := ?_) rfl (by kernel_rfl) (by kernel_rfl) (by kernel_rfl) (by kernel_rfl) (fun _ _ _ h => h) (Or.inl ⟨by rfl, ?_⟩) (by assumption) ?_
          rotate_left 1
          · intro wz ⟨_, y0⟩
            go_simp
            all_goals with_reducible rfl
          simp only [Act.put, List.setIfInBounds_toArray, List.set_cons_zero, List.set_cons_succ, List.getElem_toArray, List.getElem_cons_zero, List.getElem_cons_succ]
          refine wpAnyL_take [5, 6, 7, 10, 14] (i := 4) (v := ?_) rfl (by kernel_rfl) (by kernel_rfl) (by kernel_rfl) (by kernel_rfl) (fun _ _ _ h => h) (Or.inl ⟨by rfl, ?_⟩) (by assumption) ?_
          rotate_left 1
          · intro wz ⟨_, y0⟩
            go_simp
            all_goals with_reducible rfl
          simp only [Act.put, List.setIfInBounds_toArray, List.set_cons_zero, List.set_cons_succ, List.getElem_toArray, List.getElem_cons_zero, List.getElem_cons_succ]
          refine wpAnyL_take [6, 7, 10, 14] (i := 5) (v := ?_) rfl (by kernel_rfl) (by kernel_rfl) (by kernel_rfl) (by kernel_rfl) (fun _ _ _ h => h) (Or.inl ⟨by rfl, ?_⟩) (by assumption) ?_
          rotate_left 1
          · intro wz ⟨_, y0⟩
            go_simp
            all_goals with_reducible rfl
          simp only [Act.put, List.setIfInBounds_toArray, List.set_cons_zero, List.set_cons_succ, List.getElem_toArray, List.getElem_cons_zero, List.getElem_cons_succ]
          refine wpAnyL_take [7, 10, 14] (i := 6) (v := ?_) rfl (by kernel_rfl) (by kernel_rfl) (by kernel_rfl) (by kernel_rfl) (fun _ _ _ h => h) (Or.inl ⟨by rfl, ?_⟩) (by assumption) ?_
          rotate_left 1
          · intro wz ⟨_, y0⟩
            go_simp
            all_goals with_reducible rfl
          simp only [Act.put, List.setIfInBounds_toArray, List.set_cons_zero, List.set_cons_succ, List.getElem_toArray, List.getElem_cons_zero, List.getElem_cons_succ]
          refine wpAnyL_take [10, 14] (i := 7) (v := ?_) rfl (by kernel_rfl) (by kernel_rfl) (by kernel_rfl) (by kernel_rfl) (fun _ _ _ h => h) (Or.inl ⟨by rfl, ?_⟩) (by assumption) ?_
          rotate_left 1
          · intro wz ⟨_, y0⟩
            go_simp
            all_goals with_reducible rfl
          simp only [Act.put, List.setIfInBounds_toArray, List.set_cons_zero, List.set_cons_succ, List.getElem_toArray, List.getElem_cons_zero, List.getElem_cons_succ]
          refine wpAnyL_take [9, 10, 14] (i := 8) (v := ?_) rfl (by kernel_rfl) (by kernel_rfl) (by kernel_rfl) (by kernel_rfl) (fun _ _ _ h => h) (Or.inl ⟨by rfl, ?_⟩) (by assumption) ?_
          rotate_left 1
          · intro wz ⟨_, y0⟩
            go_simp
            all_goals with_reducible rfl
          simp only [Act.put, List.setIfInBounds_toArray, List.set_cons_zero, List.set_cons_succ, List.getElem_toArray, List.getElem_cons_zero, List.getElem_cons_succ]
          refine wpAnyL_take [12, 13, 14] (i := 11) (v := ?_) rfl (by kernel_rfl) (by kernel_rfl) (by kernel_rfl) (by kernel_rfl) (fun _ _ _ h => h) (Or.inl ⟨by rfl, ?_⟩) (by assumption) ?_
          rotate_left 1
          · intro wz ⟨_, y0⟩
            go_simp
            all_goals with_reducible rfl
          simp only [Act.put, List.setIfInBounds_toArray, List.set_cons_zero, List.set_cons_succ, List.getElem_toArray, List.getElem_cons_zero, List.getElem_cons_succ]
          refine wpAnyL_take [13, 14] (i := 12) (v := ?_) rfl (by kernel_rfl) (by kernel_rfl) (by kernel_rfl) (by kernel_rfl) (fun _ _ _ h => h) (Or.inl ⟨by rfl, ?_⟩) (by assumption) ?_
          rotate_left 1
          · intro wz ⟨_, y0⟩
            go_simp
            all_goals with_reducible rfl
          simp only [Act.put, List.setIfInBounds_toArray, List.set_cons_zero, List.set_cons_succ, List.getElem_toArray, List.getElem_cons_zero, List.getElem_cons_succ]
          refine wpAnyL_ready (rs := [9]) (by kernel_rfl) (by simp) (AllReadyL.cons rfl (fun K hK => ?_) AllReadyL.nil)
          go_simp
          refine hK.out _ _ ?_ (fun hHeld => ?_)
          · exact ⟨trivial, cellA u1⟩
          clear hK K
          refine wpAnyL_ready (rs := [10]) (by kernel_rfl) (by simp) (AllReadyL.cons rfl (fun K hK => ?_) AllReadyL.nil)
          refine step_append_run (by rfl) _ _ 52 (by rfl) _ _ _ W10 (by rfl) (by rfl) HR.out ?_
          refine hK.out _ _ ?_ (fun hHeld => ?_)
          · exact ⟨trivial, s0⟩
          clear hK K
          simp only [Act.put, List.setIfInBounds_toArray, List.set_cons_zero, List.set_cons_succ, List.getElem_toArray, List.getElem_cons_zero, List.getElem_cons_succ]
          refine wpAnyL_take [14] (i := 13) (v := ?_) rfl (by kernel_rfl) (by kernel_rfl) (by kernel_rfl) (by kernel_rfl) (fun _ _ _ h => h) (Or.inl ⟨by rfl, ?_⟩) (by assumption) ?_
          rotate_left 1
          · intro wz ⟨_, y0⟩
            go_simp
            all_goals with_reducible rfl
          simp only [Act.put, List.setIfInBounds_toArray, List.set_cons_zero, List.set_cons_succ, List.getElem_toArray, List.getElem_cons_zero, List.getElem_cons_succ]
          refine wpAnyL_ready (rs := [14]) (by kernel_rfl) (by simp) (AllReadyL.last rfl (by kernel_rfl) (fun K hK => ?_) AllReadyL.nil)
          go_simp
          refine hK.out _ _ trivial (fun hHeld => ?_)
          clear hK K
          refine wpAnyL_done (by kernel_rfl) ?_ _
          go_wp2
          go_roundw
          case rel => exact ⟨q + 1, by omega, by go_num, ⟨k.B, k1.T, k1.vo, updM k1.vr q (.slice va' ln vc')⟩, rfl, HeT.out, R1.out, R2.out⟩
          case measure => simp [intOf]; omega
        · have dw : decide ((0 : Int) < (wrN (s.ops t) q : Int)) = false := decide_eq_false (by omega)
          have R1 := HPq.out.below HB9.out
          rw [comJ_skip (s := { s with ov := updM s.ov t true }) hw] at R1
          have R1 := hideIt R1
          have R2 := hideIt (HFq.out.trans (PFr.below HB9.out))
          go_wp2
          go_roundw
          case rel => exact ⟨q + 1, by omega, by go_num, k1, HeB.out, HeT.out, R1.out, R2.out⟩
          case measure => simp [intOf]; omega
      · obtain rfl : q = 8 := by omega
        have hq8' : ¬ ((8 : Nat) : Int) < 8 := by omega
        have R1 : Hid (PrB w0 wr k1 false n (comS { s with ov := updM s.ov t true } t)) := hp.same rfl (fun _ _ => ⟨rfl, rfl, rfl, rfl⟩) fun q hq => by
          show (if 0 < wrN (s.ops t) q then s.ord q ++ [t] else s.ord q) = ordJ { s with ov := updM s.ov t true } t 8 q
          unfold ordJ
          by_cases h : 0 < wrN (s.ops t) q
          · rw [if_pos h, if_pos ⟨hq, h⟩]
          · rw [if_neg h, if_neg (fun h' => h h'.2)]
        clear hp hf eB eT
        go_wp2
        go_ret
        exact ⟨k1, by rw [HRV.out]; rfl, by rw [HRV.out]; exact R1.out, HFq.out⟩

  · go_wp2_with fail
    refine HPv.out.mono ?_
    rintro e V ⟨rfl, hbV⟩
    have hpV := HP3.out.below hbV
    have HPV := hideIt hpV
    have HFV := hideIt (HF3.out.trans (PFr.below hbV))
    have z2 := (hpV.tx t ht).2.2.1
    have g2 := hpV.fzT (t * 4 + 2)
    have hback := hpV.setEn ht (-1)
    have HBk := hideIt hback
    have HFb := hideIt (HFV.out.trans (PFr.set (p := ⟨k.T, t * 4 + 2, none⟩) (.inr (.inl rfl)) (.int .i64 (-1))))
    clear hpV hback hbV HPv HP2 HF2 HP3 HF3 q1 y2 f2 q0 y2n f2n
    cases hpv : pivP s (updM s.en t s.tm) n t n
    rotate_left 1
    · have HRV : Hid (R = true) := HRp.out (by rw [hpv]; rfl)
      have HEb : Hid ({ s with ov := updM s.ov t true } = ({ s with ov := updM s.ov t true, en := updM (updM s.en t s.tm) t (-1) } : MvS)) := by
        show _ = _
        rw [updM_back s.en hen]
      clear hpv HRp HRn
      go_wp2
      go_ret
      exact ⟨k, by rw [HRV.out, if_pos rfl, t12]; rfl, by rw [HRV.out, if_pos rfl, HEb.out]; exact HBk.out, HFb.out⟩
    have HRV : Hid (R = false) := HRn.out HLa.out (by rw [hpv]; rfl)
    clear hpv HRp HRn HBk HFb z2 g2
    go_wp2_with fail
    go_loopw [40] (fun v wr => ∃ q : Nat, q ≤ 8 ∧ v = .int .i64 q ∧ ∃ k1 : PrK, k1.B = k.B ∧ k1.T = k.T ∧ PrB w0 wr k1 true n (comJ { s with ov := updM s.ov t true } t q) ∧ PFr k n W wr k1) (fun v _ => 8 - (intOf v).toNat)
    case atStart => exact ⟨0, by omega, rfl, k, rfl, rfl, PrB.same (st' := comJ { s with ov := updM s.ov t true } t 0) HPV.out rfl (fun _ _ => ⟨rfl, rfl, rfl, rfl⟩) (fun q hq => by
        show ordJ { s with ov := updM s.ov t true } t 0 q = s.ord q
        unfold ordJ
        exact if_neg (fun h => absurd h.1 (by omega))), HFV.out⟩
    case round =>
      clear HPV HFV
      obtain ⟨q, hq, rfl, k1, eB, eT, hp, hf⟩ := hrel
      have HPq := hideIt hp
      have HFq := hideIt hf
      have HeB := hideIt eB
      have HeT := hideIt eT
      by_cases hq8 : q < 8
      · have hq8' : (q : Int) < 8 := by omega
        have hwr := hp.writes HL.out ht (q : Int) wr (Below.refl _ _)
        rw [eT] at hwr
        have HWr : Hid (Calls Tryd.prog 54 #[.pointer (some ⟨k.T, t * 4, none⟩), .int .i64 (q : Int)] wr fun e w' => e = .returned (.int .i64 (wrN (s.ops t) q : Nat)) ∧ Below wr.heap.size wr w') := hwr
        clear hwr hp hf eB eT
        go_wp2_with fail
        refine HWr.out.mono ?_
        rintro e W9 ⟨rfl, hb9⟩
        have HB9 := hideIt hb9
        clear HWr hb9
        by_cases hw : 0 < wrN (s.ops t) q
        · have dw : decide ((0 : Int) < (wrN (s.ops t) q : Int)) = true := decide_eq_true (by omega)
          have HPut := hideIt (comJ_put (s := { s with ov := updM s.ov t true }) (t := t) (j := q) hw)
          have hd9 := HPq.out.below HB9.out
          have hbA : Below W9.heap.size W9 (W9.alloc (.cells #[.int .i64 (t : Int)] 3)).drew := (belA (Below.refl _ _) _).drew
          have hdA := hd9.below hbA
          have hsz : (W9.alloc (.cells #[.int .i64 (t : Int)] 3)).drew.heap.size = W9.heap.size + 1 := by
            show (W9.alloc (.cells #[.int .i64 (t : Int)] 3)).heap.size = _
            simp
          have hnw : (W9.alloc (.cells #[.int .i64 (t : Int)] 3)).drew.cell? ⟨W9.heap.size, 0, none⟩ = some (.int .i64 (t : Int)) := cell_of_row _ _ _ _ 3 (0, 0) (heap_alloc_new W9 _)
          obtain ⟨v', W10, hr, ho, hg, hv⟩ := run_appI (hdA.rw_ q hq8) hnw (by rw [hsz]; have := hd9.bel.size; omega) (by
            show (ordJ { s with ov := updM s.ov t true } t q q).length ≤ 1000
            rw [ordJ_own]
            have := HOl.out q hq8
            show (s.ord q).length ≤ 1000
            omega) 52
          obtain ⟨va', vc', rfl⟩ := ownsRow_slice ho
          obtain ⟨hd10, hf10⟩ := hdA.pushR hq8 ho hg hv
          rw [HPut.out] at hd10
          have R1 := hideIt hd10
          have R2 := hideIt (HFq.out.trans ((PFr.below (belJ HB9.out hbA)).trans hf10))
          have HR := hideIt hr
          have u1 := hd9.cells.2.2.2 q hq8
          have hBl := hd9.lt
          have hBb : W10.heap[k1.B]? = (W9.alloc (.cells #[.int .i64 (t : Int)] 3)).drew.heap[k1.B]? := hg.block _ (by rw [hsz]; omega) fun e => ne_tagD hdA.tag.1 (hdA.tagv.2 q hq8 _ e.symm) (by decide) rfl
          have s0 : W10.cell? ⟨k1.B, 3 + q, none⟩ = some (k1.vr q) := (World.cell?_of_block (a := ⟨k1.B, 3 + q, none⟩) hBb).trans (hdA.cells.2.2.2 q hq8)
          have s1 : W10.frozen? ⟨k1.B, 3 + q, none⟩ = false := (World.frozen?_of_block (a := ⟨k1.B, 3 + q, none⟩) hBb).trans (hdA.fz _)
          rw [HeB.out] at u1 s0 s1 hBl R1 R2
          have hx1 : ¬ k.B = W9.heap.size := by omega
          have hx2 : ¬ W9.heap.size = k.B := by omega
          clear hd9 hbA hdA hsz hnw hr ho hg hv hd10 hf10 hBb HPut
          generalize ((comJ { s with ov := updM s.ov t true } t q).ord q ++ [t]).length = ln at *
          generalize k1.vr q = vq at *
          go_upto_region 13 with fail
          refine wp_region_L (B := [14]) (S := (fun _ => True)) (T := (fun w' => w'.cell? ⟨k.B, 3 + q, none⟩ = some vq)) (by kernel_rfl) ⟨trivial, u1⟩ (fun hHeld => ?_)
          refine wpAnyL_take [11, 12, 13, 14] (i := 0) (v := ?_) rfl (by kernel_rfl) (by kernel_rfl) (by kernel_rfl) (by kernel_rfl) (fun _ _ _ h => h) (Or.inl ⟨by rfl, ?_⟩) (by assumption) ?_
          rotate_left 1
          · intro wz ⟨_, y0⟩
            go_simp
            all_goals with_reducible rfl
          simp only [Act.put, List.setIfInBounds_toArray, List.set_cons_zero, List.set_cons_succ, List.getElem_toArray, List.getElem_cons_zero]
          refine wpAnyL_take [13, 14] (i := 1) (v := ?_) rfl (by kernel_rfl) (by kernel_rfl) (by kernel_rfl) (by kernel_rfl) (fun _ _ _ h => h) (Or.inl ⟨by rfl, ?_⟩) (by assumption) ?_
          rotate_left 1
          · intro wz ⟨_, y0⟩
            go_simp
            all_goals with_reducible rfl
          simp only [Act.put, List.setIfInBounds_toArray, List.set_cons_zero, List.set_cons_succ, List.getElem_toArray, List.getElem_cons_zero, List.getElem_cons_succ]
          refine wpAnyL_take [4, 5, 6, 7, 10, 14] (i := 2) (v := ?_) rfl (by kernel_rfl) (by kernel_rfl) (by kernel_rfl) (by kernel_rfl) (fun _ _ _ h => h) (Or.inl ⟨by rfl, ?_⟩) (by assumption) ?_
          rotate_left 1
          · intro wz ⟨_, y0⟩
            go_simp
            all_goals with_reducible rfl
          simp only [Act.put, List.setIfInBounds_toArray, List.set_cons_zero, List.set_cons_succ, List.getElem_toArray, List.getElem_cons_zero, List.getElem_cons_succ]
          refine wpAnyL_take [6, 7, 10, 14] (i := 3) (v := ?_) rfl (by kernel_rfl) (by kernel_rfl) (by kernel_rfl) (by kernel_rfl) (fun _ _ _ h => h) (Or.inl ⟨by rfl, ?_⟩) (by assumption) ?_
          rotate_left 1
          · intro wz ⟨_, y0⟩
            go_simp
            all_goals with_reducible rfl
          simp only [Act.put, List.setIfInBounds_toArray, List.set_cons_zero, List.set_cons_succ, List.getElem_toArray, List.getElem_cons_zero, List.getElem_cons_succ]
          refine wpAnyL_take [5, 6, 7, 10, 14] (i := 4) (v := ?_) rfl (by kernel_rfl) (by kernel_rfl) (by kernel_rfl) (by kernel_rfl) (fun _ _ _ h => h) (Or.inl ⟨by rfl, ?_⟩) (by assumption) ?_
          rotate_left 1
          · intro wz ⟨_, y0⟩
            go_simp
            all_goals with_reducible rfl
          simp only [Act.put, List.setIfInBounds_toArray, List.set_cons_zero, List.set_cons_succ, List.getElem_toArray, List.getElem_cons_zero, List.getElem_cons_succ]
          refine wpAnyL_take [6, 7, 10, 14] (i := 5) (v := ?_) rfl (by kernel_rfl) (by kernel_rfl) (by kernel_rfl) (by kernel_rfl) (fun _ _ _ h => h) (Or.inl ⟨by rfl, ?_⟩) (by assumption) ?_
          rotate_left 1
          · intro wz ⟨_, y0⟩
            go_simp
            all_goals with_reducible rfl
          simp only [Act.put, List.setIfInBounds_toArray, List.set_cons_zero, List.set_cons_succ, List.getElem_toArray, List.getElem_cons_zero, List.getElem_cons_succ]
          refine wpAnyL_take [7, 10, 14] (i := 6) (v := ?_) rfl (by kernel_rfl) (by kernel_rfl) (by kernel_rfl) (by kernel_rfl) (fun _ _ _ h => h) (Or.inl ⟨by rfl, ?_⟩) (by assumption) ?_
          rotate_left 1
          · intro wz ⟨_, y0⟩
            go_simp
            all_goals with_reducible rfl
          simp only [Act.put, List.setIfInBounds_toArray, List.set_cons_zero, List.set_cons_succ, List.getElem_toArray, List.getElem_cons_zero, List.getElem_cons_succ]
          refine wpAnyL_take [10, 14] (i := 7) (v := ?_) rfl (by kernel_rfl) (by kernel_rfl) (by kernel_rfl) (by kernel_rfl) (fun _ _ _ h => h) (Or.inl ⟨by rfl, ?_⟩) (by assumption) ?_
          rotate_left 1
          · intro wz ⟨_, y0⟩
            go_simp
            all_goals with_reducible rfl
          simp only [Act.put, List.setIfInBounds_toArray, List.set_cons_zero, List.set_cons_succ, List.getElem_toArray, List.getElem_cons_zero, List.getElem_cons_succ]
          refine wpAnyL_take [9, 10, 14] (i := 8) (v := ?_) rfl (by kernel_rfl) (by kernel_rfl) (by kernel_rfl) (by kernel_rfl) (fun _ _ _ h => h) (Or.inl ⟨by rfl, ?_⟩) (by assumption) ?_
          rotate_left 1
          · intro wz ⟨_, y0⟩
            go_simp
            all_goals with_reducible rfl
          simp only [Act.put, List.setIfInBounds_toArray, List.set_cons_zero, List.set_cons_succ, List.getElem_toArray, List.getElem_cons_zero, List.getElem_cons_succ]
          refine wpAnyL_take [12, 13, 14] (i := 11) (v := ?_) rfl (by kernel_rfl) (by kernel_rfl) (by kernel_rfl) (by kernel_rfl) (fun _ _ _ h => h) (Or.inl ⟨by rfl, ?_⟩) (by assumption) ?_
          rotate_left 1
          · intro wz ⟨_, y0⟩
            go_simp
            all_goals with_reducible rfl
          simp only [Act.put, List.setIfInBounds_toArray, List.set_cons_zero, List.set_cons_succ, List.getElem_toArray, List.getElem_cons_zero, List.getElem_cons_succ]
          refine wpAnyL_take [13, 14] (i := 12) (v := ?_) rfl (by kernel_rfl) (by kernel_rfl) (by kernel_rfl) (by kernel_rfl) (fun _ _ _ h => h) (Or.inl ⟨by rfl, ?_⟩) (by assumption) ?_
          rotate_left 1
          · intro wz ⟨_, y0⟩
            go_simp
            all_goals with_reducible rfl
          simp only [Act.put, List.setIfInBounds_toArray, List.set_cons_zero, List.set_cons_succ, List.getElem_toArray, List.getElem_cons_zero, List.getElem_cons_succ]
          refine wpAnyL_ready (rs := [9]) (by kernel_rfl) (by simp) (AllReadyL.cons rfl (fun K hK => ?_) AllReadyL.nil)
          go_simp
          refine hK.out _ _ ?_ (fun hHeld => ?_)
          · exact ⟨trivial, cellA u1⟩
          clear hK K
          refine wpAnyL_ready (rs := [10]) (by kernel_rfl) (by simp) (AllReadyL.cons rfl (fun K hK => ?_) AllReadyL.nil)
          refine step_append_run (by rfl) _ _ 52 (by rfl) _ _ _ W10 (by rfl) (by rfl) HR.out ?_
          refine hK.out _ _ ?_ (fun hHeld => ?_)
          · exact ⟨trivial, s0⟩
          clear hK K
          simp only [Act.put, List.setIfInBounds_toArray, List.set_cons_zero, List.set_cons_succ, List.getElem_toArray, List.getElem_cons_zero, List.getElem_cons_succ]
          refine wpAnyL_take [14] (i := 13) (v := ?_) rfl (by kernel_rfl) (by kernel_rfl) (by kernel_rfl) (by kernel_rfl) (fun _ _ _ h => h) (Or.inl ⟨by rfl, ?_⟩) (by assumption) ?_
          rotate_left 1
          · intro wz ⟨_, y0⟩
            go_simp
            all_goals with_reducible rfl
          simp only [Act.put, List.setIfInBounds_toArray, List.set_cons_zero, List.set_cons_succ, List.getElem_toArray, List.getElem_cons_zero, List.getElem_cons_succ]
          refine wpAnyL_ready (rs := [14]) (by kernel_rfl) (by simp) (AllReadyL.last rfl (by kernel_rfl) (fun K hK => ?_) AllReadyL.nil)
          go_simp
          refine hK.out _ _ trivial (fun hHeld => ?_)
          clear hK K
          refine wpAnyL_done (by kernel_rfl) ?_ _
          go_wp2
          go_roundw
          case rel => exact ⟨q + 1, by omega, by go_num, ⟨k.B, k1.T, k1.vo, updM k1.vr q (.slice va' ln vc')⟩, rfl, HeT.out, R1.out, R2.out⟩
          case measure => simp [intOf]; omega
        · have dw : decide ((0 : Int) < (wrN (s.ops t) q : Int)) = false := decide_eq_false (by omega)
          have R1 := HPq.out.below HB9.out
          rw [comJ_skip (s := { s with ov := updM s.ov t true }) hw] at R1
          have R1 := hideIt R1
          have R2 := hideIt (HFq.out.trans (PFr.below HB9.out))
          go_wp2
          go_roundw
          case rel => exact ⟨q + 1, by omega, by go_num, k1, HeB.out, HeT.out, R1.out, R2.out⟩
          case measure => simp [intOf]; omega
      · obtain rfl : q = 8 := by omega
        have hq8' : ¬ ((8 : Nat) : Int) < 8 := by omega
        have R1 : Hid (PrB w0 wr k1 true n (comS { s with ov := updM s.ov t true } t)) := hp.same rfl (fun _ _ => ⟨rfl, rfl, rfl, rfl⟩) fun q hq => by
          show (if 0 < wrN (s.ops t) q then s.ord q ++ [t] else s.ord q) = ordJ { s with ov := updM s.ov t true } t 8 q
          unfold ordJ
          by_cases h : 0 < wrN (s.ops t) q
          · rw [if_pos h, if_pos ⟨hq, h⟩]
          · rw [if_neg h, if_neg (fun h' => h h'.2)]
        clear hp hf eB eT
        go_wp2
        go_ret
        exact ⟨k1, by rw [HRV.out]; rfl, by rw [HRV.out]; exact R1.out, HFq.out⟩

end
end Go.Proofs.YtaopigjhdkdklaaDoor
