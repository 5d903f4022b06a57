/-
  The statement LockPlays' body, walked, over what the program's Check and Play tell.
-/
import Derived.Test.YthmiocbihhbdpaaDoorLbMZ
import Derived.Test.YthmiocbihhbdpaaDoorLcW
import Derived.Test.YthmiocbihhbdpaaDoorLzW
import Derived.Test.YthmiocbihhbdpaaDoorJaW
namespace Go.Proofs.YthmiocbihhbdpaaDoor
open Go.RowKit

/-- What Play tells: the error, or what was done. -/
def fltY (p : List (List Stp)) (ks : List Int) : Int := if fltL p = 0 then (if 200 < ks.length then 4 else 0) else fltL p
def dnY (p : List (List Stp)) (ks : List Int) : List Stp := if fltY p ks = 0 then (lkP p ks).done else []
def wtY (p : List (List Stp)) (ks : List Int) : List Int := if fltY p ks = 0 then (List.range p.length).map fun t => ((lkP p ks).cnt t : Int) else []
def vcY (p : List (List Stp)) (ks : List Int) : List Int := if fltY p ks = 0 then natI (lkP p ks).vic else []
def PyTold (p : List (List Stp)) (ks : List Int) (w : World) (e : Ending) (w' : World) : Prop :=
  ∃ a c vw vv, e = .returned (.tuple #[.agg #[.slice a (dnY p ks).length c, vw, vv], toldV (fltY p ks)]) ∧ StpsQ w' a (dnY p ks) ∧ HasI w' vw (wtY p ks) ∧ HasI w' vv (vcY p ks) ∧ Below w.heap.size w w'
/-- How long a plan's lists may be. -/
structure PlZ (p : List (List Stp)) : Prop where
  few : p.length * 24 ≤ 140737488355328
  len : ∀ t, (plN p t).length * 24 ≤ 140737488355328
/-- The copy so far. -/
structure CpR (w wr : World) (p : List (List Stp)) (v : Value) (k : Nat) (L : List Value) : Prop where
  len : L.length = k
  own : wr.ownsRow w.heap.size 27 1 v k L
  at_ : ∀ t (h : t < L.length), wr.ownsRow w.heap.size 47 3 L[t] (plN p t).length (stpC (plN p t))
theorem CpR.plq {w wr : World} {p : List (List Stp)} {v : Value} {L : List Value} (h : CpR w wr p v p.length L) (hz : PlZ p) : ∃ a c, v = .slice a p.length c ∧ p.length ≤ c ∧ PlQ wr a p := by
  obtain ⟨hl, ⟨rfl, h0⟩ | ⟨g, cap, cur, rfl, hb, hh, h1, h2, h3, h4⟩⟩ := h.own
  · exact ⟨none, 0, by rw [h0], by omega, .inl (List.eq_nil_of_length_eq_zero h0)⟩
  · refine ⟨_, cap, rfl, h1, .inr ⟨g, 0, rfl, lt_of_heap hh, fun k hk => ?_⟩⟩
    have hkL : k < L.length := by rw [h.len]; exact hk
    have hc : wr.cell? ⟨g, 0 + k, none⟩ = some L[k] := by
      rw [cell_of_row _ _ _ _ 27 _ hh, Nat.zero_add]
      have e : (cur.toList.take (p.length * 1))[k]? = L[k]? := by rw [h4]
      rw [List.getElem?_take_of_lt (by omega), Array.getElem?_toList] at e
      rw [e, List.getElem?_eq_getElem hkL]
    obtain ⟨a, c, ev, hc2, hq⟩ := stpsQ_own (h.at_ k hkL)
    rw [ev] at hc
    have hz2 := hz.len k
    rw [plN_at hk] at hc hc2 hq hz2
    exact ⟨a, c, hc, hc2, by unfold maxLen; omega, hq⟩

theorem HasI.form {w : World} {v : Value} {xs : List Int} (h : HasI w v xs) : ∃ a c, v = .slice a xs.length c := by
  obtain ⟨a, c, e, _⟩ := h
  exact ⟨a, c, e⟩
theorem StpsQ.set {w : World} {a : Option Addr} {l : List Stp} (h : StpsQ w a l) {p : Addr} {x : Option Addr} {y z : Nat} (hp : w.cell? p = some (.slice x y z)) (v : Value) : StpsQ (w.setCell p v) a l := by
  have hc : ∀ {q : Addr} {i : Int}, w.cell? q = some (.int .i64 i) → (w.setCell p v).cell? q = some (.int .i64 i) := fun {q i} hq => by
    rw [World.cell?_setCell_other _ _ _ _ (fun e => by rw [e, hq] at hp; cases hp), hq]
  rcases h with h | ⟨b, off, rfl, hb, h⟩
  · exact .inl h
  · exact .inr ⟨b, off, rfl, by simpa using hb, fun k hk => ⟨hc (h k hk).1, hc (h k hk).2.1, hc (h k hk).2.2⟩⟩
theorem HasI.set {w : World} {u : Value} {l : List Int} (h : HasI w u l) {p : Addr} {x : Option Addr} {y z : Nat} (hp : w.cell? p = some (.slice x y z)) (v : Value) : HasI (w.setCell p v) u l := by
  obtain ⟨a, c, e, h1, h2⟩ := h
  refine ⟨a, c, e, h1, fun i hi => ?_⟩
  obtain ⟨g, off, ha, hq⟩ := h2 i hi
  exact ⟨g, off, ha, by rw [World.cell?_setCell_other _ _ _ _ (fun e => by rw [e, hq] at hp; cases hp), hq]⟩
theorem own_base2 {w : World} {base base' : Nat} {e : TypeId} {m : Nat} {v : Value} {n : Nat} {xs : List Value} (h : w.ownsRow base e m v n xs) (hb : base' ≤ base) : w.ownsRow base' e m v n xs := by
  obtain ⟨hl, h | ⟨g, cap, cur, rfl, h0, h1⟩⟩ := h
  · exact ⟨hl, .inl h⟩
  · exact ⟨hl, .inr ⟨g, cap, cur, rfl, by omega, h1⟩⟩
theorem playD_any (p : List (List Stp)) (pa ka : Option Addr) (pc kc : Nat) (ks : List Int) (w : World) (hp : PlQ w pa p) (hf : fltL p = 0) (hk : HasI w (.slice ka ks.length kc) ks) (hkl : ks.length ≤ 1000) :
    Calls Tryd.prog 8 #[.slice pa p.length pc, .slice ka ks.length kc] w fun e w' => PlTold p ks w e w' := by
  obtain ⟨hpl, hl⟩ := fltL_ok hf
  by_cases h0 : 0 < p.length
  · exact play_any p pa ka pc kc ks w hp hpl hl hk hkl h0
  · have e : p = [] := List.eq_nil_of_length_eq_zero (by omega)
    subst e
    exact play0_any pa ka pc kc ks w hk hkl
theorem done_few {p : List (List Stp)} (hf : fltL p = 0) (ks : List Int) : (lkP p ks).done.length ≤ 60 ∧ (lkP p ks).vic.length ≤ 60 ∧ p.length ≤ 8 := by
  obtain ⟨hpl, hl⟩ := fltL_ok hf
  have h1 := (lkP_ok hpl ks).1.len
  refine ⟨by omega, ?_, hpl.few⟩
  have hc : ∀ f (st : LkS) m, CtI m st → (plS p p.length f st).vic.length ≤ (plS p p.length f st).done.length := fun f => by
    induction f with
    | zero => exact fun st m h => h.vic
    | succ f ih =>
      intro st m h
      cases ha : allO p.length st
      · rw [plS_go ha]
        exact ih _ (m + 1) (h.mid (Nat.le_refl _))
      · rw [plS_stop ha]
        exact h.vic
  have h2 := hc (lefN p p.length lk0) (pkS p p.length lk0 ks) (0 + ks.length) (ct_pk ⟨fun _ => Nat.le_refl _, Nat.le_refl _⟩)
  have h3 : (lkP p ks).vic.length ≤ (lkP p ks).done.length := h2
  omega
theorem CpR.more {w wr W1 : World} {p : List (List Stp)} {va : Option Addr} {k vc : Nat} {L : List Value} (h : CpR w wr p (.slice va k vc) k L) (hb : Below w.heap.size w wr) (hb1 : Below wr.heap.size wr W1) {xa : Option Addr} {xc : Nat} (hx : W1.ownsRow wr.heap.size 47 3 (.slice xa (plN p k).length xc) (plN p k).length (stpC (plN p k))) (hz : (k + 1) * 24 ≤ 140737488355328) :
    ∃ va' vc' W2, (Builtin.append_ #[25, 25] 25 #[.slice va k vc, .slice (some ⟨W1.heap.size, 0, none⟩) 1 1]).run Tryd.prog (W1.alloc (.cells #[.slice xa (plN p k).length xc] 27)) = .ok (.slice va' (k + 1) vc') W2 ∧
      CpR w W2 p (.slice va' (k + 1) vc') (k + 1) (L ++ [.slice xa (plN p k).length xc]) ∧ Below w.heap.size w W2 := by
  have hsz := hb.size
  have hsz1 := hb1.size
  have hbA : Below wr.heap.size wr (W1.alloc (.cells #[.slice xa (plN p k).length xc] 27)) := hb1.alloc hb1.size _
  have hkeep : ∀ {e m v n xs}, wr.ownsRow w.heap.size e m v n xs → (W1.alloc (.cells #[.slice xa (plN p k).length xc] 27)).ownsRow w.heap.size e m v n xs := fun hr => ownsRow_same hr fun b hb' => hbA.block b (ownsRow_block hr b hb').2.1
  have hcell : (W1.alloc (.cells #[.slice xa (plN p k).length xc] 27)).cell? ⟨W1.heap.size, 0, none⟩ = some (.slice xa (plN p k).length xc) := cell_of_row _ _ _ _ 27 _ (heap_alloc_new W1 _)
  have hown := hkeep h.own
  have hk : k = L.length := h.len.symm
  have hown' : (W1.alloc (.cells #[.slice xa (plN p k).length xc] 27)).ownsRow w.heap.size 27 1 (.slice va k vc) L.length L := by rw [← hk]; exact hown
  obtain ⟨v', W2, hr, ho, hg, _⟩ := run_appR2 rfl hown' hcell (by simp; omega) (by rw [← hk]; exact hz) 25
  rw [← hk] at ho
  obtain ⟨va', vc', rfl⟩ := ownsRow_slice ho
  have hmv : ∀ {base v n xs}, (W1.alloc (.cells #[.slice xa (plN p k).length xc] 27)).ownsRow base 47 3 v n xs → W2.ownsRow base 47 3 v n xs := fun hr' => ownsRow_same hr' fun b hb' => by
    obtain ⟨_, q2, c, hc⟩ := ownsRow_block hr' b hb'
    refine hg.block b q2 fun e => ?_
    obtain ⟨_, _, c', hc'⟩ := ownsRow_block hown b e.symm
    exact blk_ne hc hc' (by decide) rfl
  refine ⟨va', vc', W2, hr, ⟨by simp [h.len], ho, fun t ht => ?_⟩, (belJ hb hbA).grown hg (by simp; omega) (fun b hb' => (ownsRow_block hown b hb').1)⟩
  by_cases e : t < L.length
  · rw [List.getElem_append_left e]
    exact hmv (hkeep (h.at_ t e))
  · have et : t = k := by simp at ht; omega
    subst et
    rw [List.getElem_append_right (by omega)]
    simp only [h.len, Nat.sub_self, List.getElem_cons_zero]
    have hx2 : (W1.alloc (.cells #[.slice xa (plN p t).length xc] 27)).ownsRow wr.heap.size 47 3 (.slice xa (plN p t).length xc) (plN p t).length (stpC (plN p t)) := ownsRow_same hx fun b hb' => Below.heap_alloc _ _ _ (ownsRow_block hx b hb').2.1
    exact own_base2 (hmv hx2) hb.size

set_option maxRecDepth 100000 in
set_option maxHeartbeats 8000000 in
theorem plays_walk (p : List (List Stp)) (ks : List Int) (hz : PlZ p) (pa ka : Option Addr) (pc kc : Nat) (w : World) (hp : PlQ w pa p) (hk : HasI w (.slice ka ks.length kc) ks) (hkm : ks.length ≤ maxLen) (hg : GlE w)
    (hChk : ∀ W, PlQ W pa p → Calls Tryd.prog 7 #[.slice pa p.length pc] W fun e w' => e = .returned (toldV (fltL p)) ∧ Below W.heap.size W w')
    (hPly : ∀ W, PlQ W pa p → HasI W (.slice ka ks.length kc) ks → Calls Tryd.prog 9 #[.slice pa p.length pc, .slice ka ks.length kc] W fun e w' => PyTold p ks W e w') :
    Calls Tryd.prog 3 #[.slice pa p.length pc, .slice ka ks.length kc] w fun e w' => e = .returned (.bool true) ∧ Below w.heap.size w w' := by
  have HP := hideIt hp
  have HK := hideIt hk
  have HZ := hideIt hz
  have HG := hideIt hg
  have HChk := hideIt hChk
  have HPly := hideIt hPly
  have hfew := hz.few
  unfold maxLen at hkm
  clear hp hk hz hg hChk hPly
  go_enter Tryd.func3, Tryd.ntmps3
  go_wp2
  go_loopw [5, 6, 7] (fun v n i wr => ∃ (k : Nat) (q : Int) (L : List Value), k ≤ p.length ∧ n = .int .i64 q ∧ i = .int .i64 k ∧ CpR w wr p v k L ∧ Below w.heap.size w wr) (fun _ _ i _ => p.length - (intOf i).toNat)
  case atStart => exact ⟨0, p.length, [], Nat.zero_le _, rfl, rfl, ⟨rfl, World.ownsRow_nil _ _ _ _, fun t ht => absurd ht (by simp)⟩, Below.refl _ _⟩
  case round =>
    obtain ⟨k, q, L, hkp, rfl, rfl, hcp, hb⟩ := hrel
    have HC := hideIt hcp
    have HB := hideIt hb
    obtain ⟨va, vc, hv⟩ := ownsRow_slice hcp.own
    subst hv
    clear hcp hb
    by_cases hin : k < p.length
    · obtain ⟨b, off, ra, rc, rfl, hbl, q0, q1, q2, q3⟩ := HP.out.at hin
      have r0 := (HB.out.cell (p := ⟨b, off + k, none⟩) hbl).trans q0
      have HMx := hideIt (mixedL_any (plN p k) ra rc wr (HZ.out.len k) (q3.below HB.out))
      unfold maxLen at q2
      clear q0 q3
      go_wp2_with fail
      refine HMx.out.mono ?_
      rintro e W1 ⟨x, rfl, hx, hb1⟩
      obtain ⟨xa, xc, hxv⟩ := ownsRow_slice hx
      subst hxv
      obtain ⟨va2, vc2, W2, hr2, hc2, hb2⟩ := HC.out.more HB.out hb1 hx (by omega)
      have HR := hideIt hr2
      have HC2 := hideIt hc2
      have HB2 := hideIt hb2
      clear HMx hx hb1 hr2 hc2 hb2 r0
      go_wp2_with (at_builtin; refine wpList_append_run _ rfl _ _ 25 rfl _ _ _ W2 rfl rfl HR.out ?_)
      go_wp2
      go_roundw
      case rel => exact ⟨k + 1, _, _, by omega, rfl, by go_num, HC2.out, HB2.out⟩
      case measure => simp [intOf]; omega
    · obtain rfl : k = p.length := by omega
      obtain ⟨a2, c2, hv2, hc2, hq2⟩ := HC.out.plq HZ.out
      injection hv2 with hva _ hvc
      subst hva hvc
      have HQ := hideIt hq2
      clear hq2 HC
      by_cases h120 : q > 120
      · go_wp2
        go_ret
        exact ⟨rfl, HB.out⟩
      by_cases h250 : ks.length ≤ 250
      rotate_left 1
      · have h250' : (250 : Int) < ks.length := by omega
        go_wp2
        go_ret
        exact ⟨rfl, HB.out⟩
      have h250' : ¬ (250 : Int) < ks.length := by omega
      have hmx : p.length ≤ maxLen := by unfold maxLen; omega
      have HPc := hideIt (plan_any p va vc wr HQ.out hmx fun t => by have := HZ.out.len t; omega)
      clear hmx
      go_wp2_with fail
      refine HPc.out.mono ?_
      rintro e W1 ⟨rfl, hb1⟩
      have HB1 := hideIt (belJ HB.out hb1)
      replace HQ := hideIt (HQ.out.below hb1)
      clear HPc hb1 HB
      go_wp2_with fail
      refine (HChk.out W1 (HP.out.below HB1.out)).mono ?_
      rintro e W2 ⟨rfl, hb2⟩
      have HB2 := hideIt (belJ HB1.out hb2)
      replace HQ := hideIt (HQ.out.below hb2)
      clear hb2 HB1
      go_wp2_with fail
      refine (bare_any _ _ (HG.out.below HB2.out)).mono ?_
      rintro e W3 ⟨rfl, hb3⟩
      have HB3 := hideIt (belJ HB2.out hb3)
      replace HQ := hideIt (HQ.out.below hb3)
      clear hb3 HB2
      by_cases hf : fltL p = 0
      · by_cases h200 : 200 < ks.length
        · have h200' : (200 : Int) < ks.length := by omega
          have HY : Hid (fltY p ks = 4) := by unfold fltY; rw [if_pos hf, if_pos h200]; rfl
          have HF : Hid (¬ fltY p ks = 0) := by
            show ¬ fltY p ks = 0
            rw [HY.out]
            decide
          rw [hf]
          clear hf
          have HDn : Hid (dnY p ks = []) := by unfold dnY; rw [if_neg HF.out]; rfl
          have HWt : Hid (wtY p ks = []) := by unfold wtY; rw [if_neg HF.out]; rfl
          have HVc : Hid (vcY p ks = []) := by unfold vcY; rw [if_neg HF.out]; rfl
          have HB4 := hideIt (belA HB3.out (.cells #[.slice none 0 0, .slice none 0 0, .slice none 0 0] 36))
          have x0 : (W3.alloc (.cells #[.slice none 0 0, .slice none 0 0, .slice none 0 0] 36)).heap[W3.heap.size]? = some (.cells #[.slice none 0 0, .slice none 0 0, .slice none 0 0] 36 (0, 0)) := heap_alloc_new W3 _
          have HX := hideIt x0
          have HPy := hideIt (HPly.out _ (HP.out.below HB4.out) (HK.out.below HB4.out))
          unfold PyTold at HPy
          rw [HDn.out, HWt.out, HVc.out, HY.out] at HPy
          clear x0
          go_wp2_with fail
          generalize hW4 : W3.alloc (.cells #[.slice none 0 0, .slice none 0 0, .slice none 0 0] 36) = W4 at HB4 HX HPy ⊢
          clear hW4
          generalize W3.heap.size = b9 at HX ⊢
          refine HPy.out.mono ?_
          rintro e W5 ⟨a5, c5, vw, vv, rfl, hs5, hw5, hv5, hb5⟩
          obtain ⟨wa, wc, rfl⟩ := hw5.form
          obtain ⟨ya, yc, rfl⟩ := hv5.form
          have HB5 := hideIt (belJ HB4.out hb5)
          have hX5 := (hb5.block b9 (lt_of_heap HX.out)).trans HX.out
          have HX5 := hideIt hX5
          have hlt5 := lt_of_heap hX5
          clear HPy hb5 HB4 hX5
          go_wp2_with fail
          have HB6 := hideIt (belA HB5.out (.cells #[.slice a5 0 c5, .slice wa 0 wc, .slice ya 0 yc] 39))
          have hbx : Below W5.heap.size W5 (W5.alloc (.cells #[.slice a5 0 c5, .slice wa 0 wc, .slice ya 0 yc] 39)) := belA (Below.refl _ _) _
          have h10 := heap_alloc_new W5 (.cells #[.slice a5 0 c5, .slice wa 0 wc, .slice ya 0 yc] 39)
          have h9 := (hbx.block b9 hlt5).trans HX5.out
          have HD : Hid (StpsQ (W5.alloc (.cells #[.slice a5 0 c5, .slice wa 0 wc, .slice ya 0 yc] 39)) a5 [] ∧ StpsQ (W5.alloc (.cells #[.slice a5 0 c5, .slice wa 0 wc, .slice ya 0 yc] 39)) none [] ∧ HasI (W5.alloc (.cells #[.slice a5 0 c5, .slice wa 0 wc, .slice ya 0 yc] 39)) (.slice wa 0 wc) [] ∧ HasI (W5.alloc (.cells #[.slice a5 0 c5, .slice wa 0 wc, .slice ya 0 yc] 39)) (.slice none 0 0) [] ∧ HasI (W5.alloc (.cells #[.slice a5 0 c5, .slice wa 0 wc, .slice ya 0 yc] 39)) (.slice ya 0 yc) [] ∧ HasI (W5.alloc (.cells #[.slice a5 0 c5, .slice wa 0 wc, .slice ya 0 yc] 39)) (.slice none 0 0) []) := ⟨.inl rfl, .inl rfl, hw5.below hbx, hasI_nil _, hv5.below hbx, hasI_nil _⟩
          generalize hW6 : W5.alloc (.cells #[.slice a5 0 c5, .slice wa 0 wc, .slice ya 0 yc] 39) = W6 at HB6 h10 h9 HD ⊢
          have HBx : Hid (∀ Z, Below W6.heap.size W6 Z → (Z.cell? ⟨W5.heap.size, 0, none⟩ = some (.slice a5 0 c5) ∧ Z.cell? ⟨W5.heap.size, 1, none⟩ = some (.slice wa 0 wc) ∧ Z.cell? ⟨W5.heap.size, 2, none⟩ = some (.slice ya 0 yc)) ∧ Z.cell? ⟨b9, 0, none⟩ = some (.slice none 0 0) ∧ Z.cell? ⟨b9, 1, none⟩ = some (.slice none 0 0) ∧ Z.cell? ⟨b9, 2, none⟩ = some (.slice none 0 0)) := fun Z hZ => by
            have k10 := (hZ.block _ (lt_of_heap h10)).trans h10
            have k9 := (hZ.block _ (lt_of_heap h9)).trans h9
            exact ⟨⟨cell_of_row _ _ _ _ 39 _ k10, cell_of_row _ _ _ _ 39 _ k10, cell_of_row _ _ _ _ 39 _ k10⟩, cell_of_row _ _ _ _ 36 _ k9, cell_of_row _ _ _ _ 36 _ k9, cell_of_row _ _ _ _ 36 _ k9⟩
          clear hW6 h10 h9 hbx
          generalize W5.heap.size = b10 at HBx ⊢
          refine (bare_any _ _ (HG.out.below HB6.out)).mono ?_
          rintro e W7 ⟨rfl, hb7⟩
          obtain ⟨⟨x0, x1, x2⟩, y0, y1, y2⟩ := HBx.out _ hb7
          have HB7 := hideIt hb7
          clear hb7
          go_wp2_with fail
          refine (sameSteps_any [] _ _ _ _ W7 (by simp) (HD.out.1.below HB7.out) (HD.out.2.1.below HB7.out)).mono ?_
          rintro e W8 ⟨rfl, hb8⟩
          replace HB7 := hideIt (belJ HB7.out hb8)
          clear hb8 x0 x1 x2 y0 y1 y2
          obtain ⟨⟨x0, x1, x2⟩, y0, y1, y2⟩ := HBx.out _ HB7.out
          go_wp2_with fail
          refine (sameInts_any [] (by simp) _ _ W8 (HD.out.2.2.1.below HB7.out) (HD.out.2.2.2.1.below HB7.out)).mono ?_
          rintro e W9 ⟨rfl, hb9⟩
          replace HB7 := hideIt (belJ HB7.out hb9)
          clear hb9 x0 x1 x2 y0 y1 y2
          obtain ⟨⟨x0, x1, x2⟩, y0, y1, y2⟩ := HBx.out _ HB7.out
          go_wp2_with fail
          refine (sameInts_any [] (by simp) _ _ W9 (HD.out.2.2.2.2.1.below HB7.out) (HD.out.2.2.2.2.2.below HB7.out)).mono ?_
          rintro e W10 ⟨rfl, hb10⟩
          have HFi := hideIt (belJ HB6.out (belJ HB7.out hb10))
          clear hb10 x0 x1 x2 y0 y1 y2 HBx HD
          go_wp2
          go_ret
          exact ⟨rfl, HFi.out⟩
        · have h200' : ¬ (200 : Int) < ks.length := by omega
          have HY : Hid (fltY p ks = 0) := by unfold fltY; rw [if_pos hf, if_neg h200]; rfl
          have HDn : Hid (dnY p ks = (lkP p ks).done) := by unfold dnY; rw [if_pos HY.out]; rfl
          have HWt : Hid (wtY p ks = (List.range p.length).map fun t => ((lkP p ks).cnt t : Int)) := by unfold wtY; rw [if_pos HY.out]; rfl
          have HVc : Hid (vcY p ks = natI (lkP p ks).vic) := by unfold vcY; rw [if_pos HY.out]; rfl
          obtain ⟨hd60, hv60, hp8⟩ := done_few hf ks
          have HF := hideIt hf
          rw [hf]
          clear hf
          have HB4 := hideIt (belA HB3.out (.cells #[.slice none 0 0, .slice none 0 0, .slice none 0 0] 36))
          have HX := hideIt (heap_alloc_new W3 (.cells #[.slice none 0 0, .slice none 0 0, .slice none 0 0] 36))
          have HB9lo : Hid (w.heap.size ≤ W3.heap.size) := HB3.out.size
          have HPyG := HPly
          unfold PyTold at HPyG
          have HPd := hideIt (playD_any p va ka vc kc ks _ (HQ.out.below (belA (Below.refl _ _) (.cells #[.slice none 0 0, .slice none 0 0, .slice none 0 0] 36))) HF.out (HK.out.below HB4.out) (by omega))
          unfold PlTold at HPd
          go_wp2_with fail
          generalize hW4 : W3.alloc (.cells #[.slice none 0 0, .slice none 0 0, .slice none 0 0] 36) = W4 at HB4 HX HPd ⊢
          clear hW4
          generalize W3.heap.size = b9 at HX HB9lo ⊢
          refine HPd.out.mono ?_
          rintro e W4b ⟨a9, c9, vw9, vv9, rfl, hc9, hs9, hw9, hv9, hb9⟩
          rw [HDn.out, HWt.out, HVc.out, HY.out] at HPyG
          generalize (lkP p ks).done = dn at hd60 hc9 hs9 HPyG ⊢
          have hwl : ((List.range p.length).map fun t => ((lkP p ks).cnt t : Int)).length ≤ 60 := by rw [List.length_map, List.length_range]; omega
          have hvl : (natI (lkP p ks).vic).length ≤ 60 := by unfold natI; rw [List.length_map]; exact hv60
          generalize ((List.range p.length).map fun t => ((lkP p ks).cnt t : Int)) = wt at hwl hw9 HPyG
          generalize natI (lkP p ks).vic = vl at hvl hv9 HPyG
          obtain ⟨wa9, wc9, rfl⟩ := hw9.form
          obtain ⟨ya9, yc9, rfl⟩ := hv9.form
          have hX9 := (hb9.block b9 (lt_of_heap HX.out)).trans HX.out
          have HB4b := hideIt (belJ HB4.out hb9)
          have e0 : W4b.cell? ⟨b9, 0, none⟩ = some (.slice none 0 0) := cell_of_row _ _ _ _ 36 _ hX9
          have e1 : W4b.cell? ⟨b9, 1, none⟩ = some (.slice none 0 0) := cell_of_row _ _ _ _ 36 _ hX9
          have e2 : W4b.cell? ⟨b9, 2, none⟩ = some (.slice none 0 0) := cell_of_row _ _ _ _ 36 _ hX9
          have z0 : W4b.frozen? ⟨b9, 0, none⟩ = false := frozen_of_row _ _ _ _ 36 hX9
          have z1 : W4b.frozen? ⟨b9, 1, none⟩ = false := frozen_of_row _ _ _ _ 36 hX9
          have z2 : W4b.frozen? ⟨b9, 2, none⟩ = false := frozen_of_row _ _ _ _ 36 hX9
          have f1 : (W4b.setCell ⟨b9, 0, none⟩ (.slice a9 dn.length c9)).cell? ⟨b9, 1, none⟩ = some (.slice none 0 0) := (World.cell?_setCell_other _ _ _ _ (offNe (by decide))).trans e1
          have f2 : ((W4b.setCell ⟨b9, 0, none⟩ (.slice a9 dn.length c9)).setCell ⟨b9, 1, none⟩ (.slice wa9 wt.length wc9)).cell? ⟨b9, 2, none⟩ = some (.slice none 0 0) := (World.cell?_setCell_other _ _ _ _ (offNe (by decide))).trans ((World.cell?_setCell_other _ _ _ _ (offNe (by decide))).trans e2)
          have HD9 : Hid (StpsQ (((W4b.setCell ⟨b9, 0, none⟩ (.slice a9 dn.length c9)).setCell ⟨b9, 1, none⟩ (.slice wa9 wt.length wc9)).setCell ⟨b9, 2, none⟩ (.slice ya9 vl.length yc9)) a9 dn ∧ HasI (((W4b.setCell ⟨b9, 0, none⟩ (.slice a9 dn.length c9)).setCell ⟨b9, 1, none⟩ (.slice wa9 wt.length wc9)).setCell ⟨b9, 2, none⟩ (.slice ya9 vl.length yc9)) (.slice wa9 wt.length wc9) wt ∧ HasI (((W4b.setCell ⟨b9, 0, none⟩ (.slice a9 dn.length c9)).setCell ⟨b9, 1, none⟩ (.slice wa9 wt.length wc9)).setCell ⟨b9, 2, none⟩ (.slice ya9 vl.length yc9)) (.slice ya9 vl.length yc9) vl) := ⟨((hs9.set e0 _).set f1 _).set f2 _, ((hw9.set e0 _).set f1 _).set f2 _, ((hv9.set e0 _).set f1 _).set f2 _⟩
          have HX9 : Hid ((((W4b.setCell ⟨b9, 0, none⟩ (.slice a9 dn.length c9)).setCell ⟨b9, 1, none⟩ (.slice wa9 wt.length wc9)).setCell ⟨b9, 2, none⟩ (.slice ya9 vl.length yc9)).heap[b9]? = some (.cells #[.slice a9 dn.length c9, .slice wa9 wt.length wc9, .slice ya9 vl.length yc9] 36 (0, 0))) := by
            have h1 := heap_setCell_same W4b b9 0 _ 36 (.slice a9 dn.length c9) hX9
            have h2 := heap_setCell_same _ b9 1 _ 36 (.slice wa9 wt.length wc9) h1
            have h3 := heap_setCell_same _ b9 2 _ 36 (.slice ya9 vl.length yc9) h2
            show (((W4b.setCell ⟨b9, 0, none⟩ (.slice a9 dn.length c9)).setCell ⟨b9, 1, none⟩ (.slice wa9 wt.length wc9)).setCell ⟨b9, 2, none⟩ (.slice ya9 vl.length yc9)).heap[b9]? = _
            rw [h3]
            simp
          have HB9 : Hid (Below w.heap.size w (((W4b.setCell ⟨b9, 0, none⟩ (.slice a9 dn.length c9)).setCell ⟨b9, 1, none⟩ (.slice wa9 wt.length wc9)).setCell ⟨b9, 2, none⟩ (.slice ya9 vl.length yc9))) := ((HB4b.out.setCell (p := ⟨b9, 0, none⟩) HB9lo.out _).setCell (p := ⟨b9, 1, none⟩) HB9lo.out _).setCell (p := ⟨b9, 2, none⟩) HB9lo.out _
          clear hX9 hs9 hw9 hv9 hb9 f1 f2 HPd HX HB4 HB4b
          go_upto_region 18 with fail
          clear e0 e1 e2 z0 z1 z2
          generalize ((W4b.setCell ⟨b9, 0, none⟩ (.slice a9 dn.length c9)).setCell ⟨b9, 1, none⟩ (.slice wa9 wt.length wc9)).setCell ⟨b9, 2, none⟩ (.slice ya9 vl.length yc9) = W4c at HD9 HX9 HB9 ⊢
          have HPy := hideIt (HPyG.out W4c (HP.out.below HB9.out) (HK.out.below HB9.out))
          go_wp2_with fail
          refine HPy.out.mono ?_
          rintro e W5 ⟨a5, c5, vw, vv, rfl, hs5, hw5, hv5, hb5⟩
          obtain ⟨wa, wc, rfl⟩ := hw5.form
          obtain ⟨ya, yc, rfl⟩ := hv5.form
          have HB5 := hideIt (belJ HB9.out hb5)
          have hX5 := (hb5.block b9 (lt_of_heap HX9.out)).trans HX9.out
          have HX5 := hideIt hX5
          have hlt5 := lt_of_heap hX5
          obtain ⟨u9, v9, t9⟩ := HD9.out
          replace u9 := u9.below hb5
          replace v9 := v9.below hb5
          replace t9 := t9.below hb5
          clear HPy HPyG hb5 HB9 hX5 HX9 HD9
          go_wp2_with fail
          have HB6 := hideIt (belA HB5.out (.cells #[.slice a5 dn.length c5, .slice wa wt.length wc, .slice ya vl.length yc] 39))
          have hbx : Below W5.heap.size W5 (W5.alloc (.cells #[.slice a5 dn.length c5, .slice wa wt.length wc, .slice ya vl.length yc] 39)) := belA (Below.refl _ _) _
          have h10 := heap_alloc_new W5 (.cells #[.slice a5 dn.length c5, .slice wa wt.length wc, .slice ya vl.length yc] 39)
          have h9 := (hbx.block b9 hlt5).trans HX5.out
          have HD : Hid (StpsQ (W5.alloc (.cells #[.slice a5 dn.length c5, .slice wa wt.length wc, .slice ya vl.length yc] 39)) a5 dn ∧ StpsQ (W5.alloc (.cells #[.slice a5 dn.length c5, .slice wa wt.length wc, .slice ya vl.length yc] 39)) a9 dn ∧ HasI (W5.alloc (.cells #[.slice a5 dn.length c5, .slice wa wt.length wc, .slice ya vl.length yc] 39)) (.slice wa wt.length wc) wt ∧ HasI (W5.alloc (.cells #[.slice a5 dn.length c5, .slice wa wt.length wc, .slice ya vl.length yc] 39)) (.slice wa9 wt.length wc9) wt ∧ HasI (W5.alloc (.cells #[.slice a5 dn.length c5, .slice wa wt.length wc, .slice ya vl.length yc] 39)) (.slice ya vl.length yc) vl ∧ HasI (W5.alloc (.cells #[.slice a5 dn.length c5, .slice wa wt.length wc, .slice ya vl.length yc] 39)) (.slice ya9 vl.length yc9) vl) := ⟨hs5.below hbx, u9.below hbx, hw5.below hbx, v9.below hbx, hv5.below hbx, t9.below hbx⟩
          generalize hW6 : W5.alloc (.cells #[.slice a5 dn.length c5, .slice wa wt.length wc, .slice ya vl.length yc] 39) = W6 at HB6 h10 h9 HD ⊢
          have HBx : Hid (∀ Z, Below W6.heap.size W6 Z → (Z.cell? ⟨W5.heap.size, 0, none⟩ = some (.slice a5 dn.length c5) ∧ Z.cell? ⟨W5.heap.size, 1, none⟩ = some (.slice wa wt.length wc) ∧ Z.cell? ⟨W5.heap.size, 2, none⟩ = some (.slice ya vl.length yc)) ∧ Z.cell? ⟨b9, 0, none⟩ = some (.slice a9 dn.length c9) ∧ Z.cell? ⟨b9, 1, none⟩ = some (.slice wa9 wt.length wc9) ∧ Z.cell? ⟨b9, 2, none⟩ = some (.slice ya9 vl.length yc9)) := fun Z hZ => by
            have k10 := (hZ.block _ (lt_of_heap h10)).trans h10
            have k9 := (hZ.block _ (lt_of_heap h9)).trans h9
            exact ⟨⟨cell_of_row _ _ _ _ 39 _ k10, cell_of_row _ _ _ _ 39 _ k10, cell_of_row _ _ _ _ 39 _ k10⟩, cell_of_row _ _ _ _ 36 _ k9, cell_of_row _ _ _ _ 36 _ k9, cell_of_row _ _ _ _ 36 _ k9⟩
          clear hW6 h10 h9 hbx
          generalize W5.heap.size = b10 at HBx ⊢
          refine (bare_any _ _ (HG.out.below HB6.out)).mono ?_
          rintro e W7 ⟨rfl, hb7⟩
          obtain ⟨⟨x0, x1, x2⟩, y0, y1, y2⟩ := HBx.out _ hb7
          have HB7 := hideIt hb7
          clear hb7
          go_wp2_with fail
          refine (sameSteps_any dn _ _ _ _ W7 (by omega) (HD.out.1.below HB7.out) (HD.out.2.1.below HB7.out)).mono ?_
          rintro e W8 ⟨rfl, hb8⟩
          replace HB7 := hideIt (belJ HB7.out hb8)
          clear hb8 x0 x1 x2 y0 y1 y2
          obtain ⟨⟨x0, x1, x2⟩, y0, y1, y2⟩ := HBx.out _ HB7.out
          go_wp2_with fail
          refine (sameInts_any wt hwl _ _ W8 (HD.out.2.2.1.below HB7.out) (HD.out.2.2.2.1.below HB7.out)).mono ?_
          rintro e W9 ⟨rfl, hb9⟩
          replace HB7 := hideIt (belJ HB7.out hb9)
          clear hb9 x0 x1 x2 y0 y1 y2
          obtain ⟨⟨x0, x1, x2⟩, y0, y1, y2⟩ := HBx.out _ HB7.out
          go_wp2_with fail
          refine (sameInts_any vl hvl _ _ W9 (HD.out.2.2.2.2.1.below HB7.out) (HD.out.2.2.2.2.2.below HB7.out)).mono ?_
          rintro e W10 ⟨rfl, hb10⟩
          have HFi := hideIt (belJ HB6.out (belJ HB7.out hb10))
          clear hb10 x0 x1 x2 y0 y1 y2 HBx HD
          go_wp2
          go_ret
          exact ⟨rfl, HFi.out⟩
      · have hfb : (fltL p == 0) = false := by simp [hf]
        have HY : Hid (fltY p ks = fltL p) := by unfold fltY; rw [if_neg hf]; rfl
        have HF : Hid (¬ fltY p ks = 0) := by rw [HY.out]; exact hf
        clear hf
        have HDn : Hid (dnY p ks = []) := by unfold dnY; rw [if_neg HF.out]; rfl
        have HWt : Hid (wtY p ks = []) := by unfold wtY; rw [if_neg HF.out]; rfl
        have HVc : Hid (vcY p ks = []) := by unfold vcY; rw [if_neg HF.out]; rfl
        have HB4 := hideIt (belA HB3.out (.cells #[.slice none 0 0, .slice none 0 0, .slice none 0 0] 36))
        have x0 : (W3.alloc (.cells #[.slice none 0 0, .slice none 0 0, .slice none 0 0] 36)).heap[W3.heap.size]? = some (.cells #[.slice none 0 0, .slice none 0 0, .slice none 0 0] 36 (0, 0)) := heap_alloc_new W3 _
        have HX := hideIt x0
        have HPy := hideIt (HPly.out _ (HP.out.below HB4.out) (HK.out.below HB4.out))
        unfold PyTold at HPy
        rw [HDn.out, HWt.out, HVc.out, HY.out] at HPy
        clear x0
        go_wp2_with fail
        generalize hW4 : W3.alloc (.cells #[.slice none 0 0, .slice none 0 0, .slice none 0 0] 36) = W4 at HB4 HX HPy ⊢
        clear hW4
        generalize W3.heap.size = b9 at HX ⊢
        refine HPy.out.mono ?_
        rintro e W5 ⟨a5, c5, vw, vv, rfl, hs5, hw5, hv5, hb5⟩
        obtain ⟨wa, wc, rfl⟩ := hw5.form
        obtain ⟨ya, yc, rfl⟩ := hv5.form
        have HB5 := hideIt (belJ HB4.out hb5)
        have hX5 := (hb5.block b9 (lt_of_heap HX.out)).trans HX.out
        have HX5 := hideIt hX5
        have hlt5 := lt_of_heap hX5
        clear HPy hb5 HB4 hX5
        go_wp2_with fail
        have HB6 := hideIt (belA HB5.out (.cells #[.slice a5 0 c5, .slice wa 0 wc, .slice ya 0 yc] 39))
        have hbx : Below W5.heap.size W5 (W5.alloc (.cells #[.slice a5 0 c5, .slice wa 0 wc, .slice ya 0 yc] 39)) := belA (Below.refl _ _) _
        have h10 := heap_alloc_new W5 (.cells #[.slice a5 0 c5, .slice wa 0 wc, .slice ya 0 yc] 39)
        have h9 := (hbx.block b9 hlt5).trans HX5.out
        have HD : Hid (StpsQ (W5.alloc (.cells #[.slice a5 0 c5, .slice wa 0 wc, .slice ya 0 yc] 39)) a5 [] ∧ StpsQ (W5.alloc (.cells #[.slice a5 0 c5, .slice wa 0 wc, .slice ya 0 yc] 39)) none [] ∧ HasI (W5.alloc (.cells #[.slice a5 0 c5, .slice wa 0 wc, .slice ya 0 yc] 39)) (.slice wa 0 wc) [] ∧ HasI (W5.alloc (.cells #[.slice a5 0 c5, .slice wa 0 wc, .slice ya 0 yc] 39)) (.slice none 0 0) [] ∧ HasI (W5.alloc (.cells #[.slice a5 0 c5, .slice wa 0 wc, .slice ya 0 yc] 39)) (.slice ya 0 yc) [] ∧ HasI (W5.alloc (.cells #[.slice a5 0 c5, .slice wa 0 wc, .slice ya 0 yc] 39)) (.slice none 0 0) []) := ⟨.inl rfl, .inl rfl, hw5.below hbx, hasI_nil _, hv5.below hbx, hasI_nil _⟩
        generalize hW6 : W5.alloc (.cells #[.slice a5 0 c5, .slice wa 0 wc, .slice ya 0 yc] 39) = W6 at HB6 h10 h9 HD ⊢
        have HBx : Hid (∀ Z, Below W6.heap.size W6 Z → (Z.cell? ⟨W5.heap.size, 0, none⟩ = some (.slice a5 0 c5) ∧ Z.cell? ⟨W5.heap.size, 1, none⟩ = some (.slice wa 0 wc) ∧ Z.cell? ⟨W5.heap.size, 2, none⟩ = some (.slice ya 0 yc)) ∧ Z.cell? ⟨b9, 0, none⟩ = some (.slice none 0 0) ∧ Z.cell? ⟨b9, 1, none⟩ = some (.slice none 0 0) ∧ Z.cell? ⟨b9, 2, none⟩ = some (.slice none 0 0)) := fun Z hZ => by
          have k10 := (hZ.block _ (lt_of_heap h10)).trans h10
          have k9 := (hZ.block _ (lt_of_heap h9)).trans h9
          exact ⟨⟨cell_of_row _ _ _ _ 39 _ k10, cell_of_row _ _ _ _ 39 _ k10, cell_of_row _ _ _ _ 39 _ k10⟩, cell_of_row _ _ _ _ 36 _ k9, cell_of_row _ _ _ _ 36 _ k9, cell_of_row _ _ _ _ 36 _ k9⟩
        clear hW6 h10 h9 hbx
        generalize W5.heap.size = b10 at HBx ⊢
        refine (bare_any _ _ (HG.out.below HB6.out)).mono ?_
        rintro e W7 ⟨rfl, hb7⟩
        obtain ⟨⟨x0, x1, x2⟩, y0, y1, y2⟩ := HBx.out _ hb7
        have HB7 := hideIt hb7
        clear hb7
        go_wp2_with fail
        refine (sameSteps_any [] _ _ _ _ W7 (by simp) (HD.out.1.below HB7.out) (HD.out.2.1.below HB7.out)).mono ?_
        rintro e W8 ⟨rfl, hb8⟩
        replace HB7 := hideIt (belJ HB7.out hb8)
        clear hb8 x0 x1 x2 y0 y1 y2
        obtain ⟨⟨x0, x1, x2⟩, y0, y1, y2⟩ := HBx.out _ HB7.out
        go_wp2_with fail
        refine (sameInts_any [] (by simp) _ _ W8 (HD.out.2.2.1.below HB7.out) (HD.out.2.2.2.1.below HB7.out)).mono ?_
        rintro e W9 ⟨rfl, hb9⟩
        replace HB7 := hideIt (belJ HB7.out hb9)
        clear hb9 x0 x1 x2 y0 y1 y2
        obtain ⟨⟨x0, x1, x2⟩, y0, y1, y2⟩ := HBx.out _ HB7.out
        go_wp2_with fail
        refine (sameInts_any [] (by simp) _ _ W9 (HD.out.2.2.2.2.1.below HB7.out) (HD.out.2.2.2.2.2.below HB7.out)).mono ?_
        rintro e W10 ⟨rfl, hb10⟩
        have HFi := hideIt (belJ HB6.out (belJ HB7.out hb10))
        clear hb10 x0 x1 x2 y0 y1 y2 HBx HD
        go_wp2
        go_ret
        exact ⟨rfl, HFi.out⟩
end Go.Proofs.YthmiocbihhbdpaaDoor
