/-
  The document's Edges, walked.
-/
import Derived.Test.YtodanhjookgbeaaDoorJbW
import Derived.Test.YtodanhjookgbeaaDoorIaMZ
namespace Go.Proofs.YtodanhjookgbeaaDoor
open Go.RowKit

/-- What the document's Edges tells. -/
def EdgTold (s : ISt) (w : World) (e : Ending) (w' : World) : Prop :=
  ∃ v1 v2 v3, e = .returned (.tuple #[v1, v2, v3]) ∧ ReadM w' v1 s.txs.length (ovB s) ∧ ReadM w' v2 s.txs.length (seB s) ∧ ReadM w' v3 s.txs.length (anB s) ∧ Below w.heap.size w w'
theorem beh_nd {l : List Int} (h : l.Nodup) {p : Nat} (hp : p < l.length) : behV l l[p] = (l[p + 1]?).getD (-1) := by
  unfold behV
  rw [idxN_first hp rfl fun j hj hjp e => by
    have := (List.nodup_iff_pairwise_ne.1 h)
    rw [List.pairwise_iff_getElem] at this
    exact this j p hj hp hjp e]
  rw [show ((p : Int) + 1).toNat = p + 1 by omega]
theorem beh_cases (l : List Int) (f : Int) : behV l f = -1 ∨ behV l f ∈ l := by
  unfold behV
  generalize (idxN l f + 1).toNat = k
  by_cases h : k < l.length
  · rw [List.getElem?_eq_getElem h]; exact .inr (List.getElem_mem h)
  · rw [List.getElem?_eq_none (by omega)]; exact .inl rfl
theorem see_none {s : ISt} {i : Nat} {o : IOp} (h : ((o.frm == -1 || comI s o.frm) && (othB i o && lastB (verF s) o)) = false) (a b : Nat) : seeP s (i, o) a b = false := by
  unfold seeP
  dsimp only
  rw [h]
  rfl
theorem see_put {s : ISt} {i fr : Nat} {o : IOp} (h : ((o.frm == -1 || comI s o.frm) && (othB i o && lastB (verF s) o)) = true) (hf : o.frm = (fr : Int)) (a b : Nat) : seeP s (i, o) a b = (decide (a = fr) && decide (b = i)) := by
  unfold seeP
  dsimp only
  rw [h, hf, Bool.true_and]
  congr 1
  · by_cases e : a = fr
    · subst e; simp
    · rw [decide_eq_false e, beq_eq_false_iff_ne]; omega
  · by_cases e : b = i
    · subst e; simp
    · rw [decide_eq_false e, beq_eq_false_iff_ne]; omega
theorem anw_none {s : ISt} {i : Nat} {o : IOp} (h : ((o.frm == -1 || comI s o.frm) && (anwV s (i, o) != -1 && anwV s (i, o) != (i : Int))) = false) (a b : Nat) : anwP s (i, o) a b = false := by
  unfold anwP
  dsimp only
  rw [h]
  rfl
theorem anw_put {s : ISt} {i y : Nat} {o : IOp} (h : ((o.frm == -1 || comI s o.frm) && (anwV s (i, o) != -1 && anwV s (i, o) != (i : Int))) = true) (hf : anwV s (i, o) = (y : Int)) (a b : Nat) : anwP s (i, o) a b = (decide (a = i) && decide (b = y)) := by
  unfold anwP
  dsimp only
  rw [h, hf, Bool.true_and]
  congr 1
  · by_cases e : a = i
    · subst e; simp
    · rw [decide_eq_false e, beq_eq_false_iff_ne]; omega
  · by_cases e : b = y
    · subst e; simp
    · rw [decide_eq_false e, beq_eq_false_iff_ne]; omega

theorem see_step {s : ISt} {n : Nat} {o : IOp} {L L' : List (Nat × IOp)} (hL : L' = L ++ [(n, o)]) (hc : (o.frm == -1 || comI s o.frm) = true) :
    ((othB n o && lastB (verF s) o) = false → ∀ a b, seeL s L a b = seeL s L' a b) ∧ ∀ fr : Nat, o.frm = (fr : Int) → (othB n o && lastB (verF s) o) = true → ∀ a b, (if a = fr ∧ b = n then true else seeL s L a b) = seeL s L' a b := by
  subst hL
  refine ⟨fun h a b => ?_, fun fr hf h a b => ?_⟩
  · rw [seeL_app, see_none (by rw [hc, h]; rfl), Bool.or_false]
  · rw [seeL_app, or_put (see_put (by rw [hc, h]; rfl) hf)]
theorem anw_step {s : ISt} {n : Nat} {o : IOp} {L L' : List (Nat × IOp)} (hL : L' = L ++ [(n, o)]) (hc : (o.frm == -1 || comI s o.frm) = true) :
    (behV (lstK s o.key) o.frm = -1 ∨ behV (lstK s o.key) o.frm = (n : Int) → ∀ a b, anwL s L a b = anwL s L' a b) ∧ ∀ y : Nat, behV (lstK s o.key) o.frm = (y : Int) → y ≠ n → ∀ a b, (if a = n ∧ b = y then true else anwL s L a b) = anwL s L' a b := by
  subst hL
  refine ⟨fun h a b => ?_, fun y hy hne a b => ?_⟩
  · rw [anwL_app, anw_none (by
      show (_ && (behV (lstK s o.key) o.frm != -1 && behV (lstK s o.key) o.frm != (n : Int))) = false
      rcases h with h | h <;> rw [h] <;> simp), Bool.or_false]
  · rw [anwL_app, or_put (anw_put (y := y) (by
      show (_ && (behV (lstK s o.key) o.frm != -1 && behV (lstK s o.key) o.frm != (n : Int))) = true
      rw [hc, hy]
      simp
      omega) hy)]
theorem both_off {s : ISt} {n : Nat} {o : IOp} {L L' : List (Nat × IOp)} (hL : L' = L ++ [(n, o)]) (hc : (o.frm == -1 || comI s o.frm) = false) : (∀ a b, seeL s L a b = seeL s L' a b) ∧ ∀ a b, anwL s L a b = anwL s L' a b := by
  subst hL
  exact ⟨fun a b => by rw [seeL_app, see_none (by rw [hc]; rfl), Bool.or_false], fun a b => by rw [anwL_app, anw_none (by rw [hc]; rfl), Bool.or_false]⟩

set_option maxRecDepth 100000 in
set_option maxHeartbeats 16000000 in
theorem dEdges_any (s : ISt) (ok : IOk s) (a b : Option Addr) (ca cb : Nat) (w : World) (h : StyQ w a ca b cb s) :
    Calls Tryd.prog 8 #[.agg #[.slice a s.txs.length ca, .slice b s.ord.length cb]] w fun e w' => EdgTold s w e w' := by
  have HS := hideIt h
  have h8 := ok.few
  have HB : Hid (Below w.heap.size w (w.alloc (.cells #[.slice a s.txs.length ca, .slice b s.ord.length cb] 28))) := belA (Below.refl _ _) _
  obtain ⟨c0, c1⟩ := box2 w (.slice a s.txs.length ca) (.slice b s.ord.length cb) 28
  have HL : Hid (∀ q, q < 8 → ∀ j (hj : j < (lstK s (q : Nat)).length), ∃ t : Nat, t < s.txs.length ∧ (lstK s (q : Nat))[j] = (t : Int)) := fun q hq j hj => by
    have := ((ok.ord.mem (q : Int) _ (by omega) (by omega)).1 (List.getElem_mem hj)).1
    obtain ⟨t, ht⟩ := Int.eq_ofNat_of_zero_le this.1
    exact ⟨t, by omega, ht⟩
  have HNd : Hid (∀ q : Nat, q < 8 → (lstK s (q : Nat)).Nodup) := fun q hq => ok.ord.nodup q (by omega) (by omega)
  have HNeg : Hid (∀ q : Nat, q < 8 → ∀ t : Int, t < 0 → t ∉ lstK s (q : Nat)) := fun q hq t ht hm => by
    have := ((ok.ord.mem (q : Int) _ (by omega) (by omega)).1 hm).1
    omega
  have HOp : Hid (∀ i : Nat, i < s.txs.length → ∀ m (hm : m < (txI s (i : Int)).ops.length), fltP s (txI s (i : Int)).ops[m] = 0) := fun i hi m hm => (ok.ops (txI s (i : Int)) (by rw [txI_at hi]; exact List.getElem_mem hi)).2 _ (List.getElem_mem hm)
  have HWro : Hid (∀ f : Nat, f < s.txs.length → ∀ key, wroI s (f : Int) key ≤ 60) := fun f hf key => by
    have h1 := (ok.ops (txI s (f : Int)) (by rw [txI_at hf]; exact List.getElem_mem hf)).1
    unfold wroI wroT
    exact Nat.le_trans List.countP_le_length h1
  have HO8 := hideIt ok.eight
  have HOl : Hid (∀ k : Nat, k < 8 → k < s.ord.length) := fun k hk => by have := ok.eight; omega
  clear h ok
  go_enter Tryd.func8, Tryd.ntmps8
  go_wp2_with fail
  generalize hW : w.alloc _ = W at HB c0 c1 ⊢
  have HWs : Hid (w.heap.size < W.heap.size) := World.block_lt_of_cell? W _ c0
  clear hW
  refine (blank_any s.txs.length (by omega) _).mono ?_
  rintro e w1 ⟨v1, g1, rfl, ho1, hl1, hn1, hb1⟩
  go_wp2_with fail
  refine (blank_any s.txs.length (by omega) _).mono ?_
  rintro e w2 ⟨v2, g2, rfl, ho2, hl2, hn2, hb2⟩
  go_wp2_with fail
  refine (blank_any s.txs.length (by omega) _).mono ?_
  rintro e w3 ⟨v3, g3, rfl, ho3, hl3, hn3, hb3⟩
  have HEd : Hid (EdgO w3 W.heap.size w1.heap.size w2.heap.size w3.heap.size s.txs.length v1 g1 v2 g2 v3 g3 (fun _ _ => false) (fun _ _ => false) (fun _ _ => false)) :=
    ⟨(ho1.below hb2 (Nat.le_refl _)).below hb3 (Nat.le_refl _), ho2.below hb3 (Nat.le_refl _), ho3, hl1, hl2, hl3, hn1, hn2, hn3,
      ⟨fun x hx => (ho1.from.1 x hx).2, fun x hx => (ho1.from.2 x hx).2⟩, ⟨fun x hx => (ho2.from.1 x hx).2, fun x hx => (ho2.from.2 x hx).2⟩, ⟨fun x hx => (ho3.from.1 x hx).2, fun x hx => (ho3.from.2 x hx).2⟩, hb1.size, hb2.size, hb3.size, Nat.le_refl _⟩
  have HB3 : Hid (Below W.heap.size W w3) := belJ (belJ hb1 hb2) hb3
  generalize w1.heap.size = m1 at *
  generalize w2.heap.size = m2 at *
  generalize w3.heap.size = m3 at *
  clear ho1 ho2 ho3 hb1 hb2 hb3 hl1 hl2 hl3 hn1 hn2 hn3
  have d1 := (HB3.out.cell (p := ⟨w.heap.size, 1, none⟩) HWs.out).trans c1
  have HBe : Hid (∀ Z, Below W.heap.size W Z → ∀ key : Nat, key < 8 → ∀ t : Int, Calls Tryd.prog 23 #[.int .i64 (key : Int), .int .i64 t, .pointer (some ⟨w.heap.size, 0, none⟩)] Z fun e w' => e = .returned (.int .i64 (behV (lstK s (key : Int)) t)) ∧ w' = Z) := fun Z hZ key hk t =>
    dBehind_any s a b ca cb key t w.heap.size Z ((HS.out.below HB.out).below hZ) (HOl.out key hk) (HNeg.out key hk t) ((hZ.cell (p := ⟨w.heap.size, 1, none⟩) HWs.out).trans c1)
  go_wp2
  go_loopw [30] (fun i wr => ∃ q : Nat, q ≤ 8 ∧ i = .int .i64 q ∧ EdgO wr W.heap.size m1 m2 m3 s.txs.length v1 g1 v2 g2 v3 g3 (ovS s q) (fun _ _ => false) (fun _ _ => false) ∧ Below W.heap.size W wr) (fun i _ => 8 - (intOf i).toNat)
  case atStart => exact ⟨0, by omega, rfl, HEd.out.same (fun _ _ _ _ => rfl) (fun _ _ _ _ => rfl) (fun _ _ _ _ => rfl), HB3.out⟩
  case round =>
    clear HEd HB3
    obtain ⟨q, hq, rfl, he, hb⟩ := hrel
    have HEd := hideIt he
    have HBw := hideIt hb
    clear he hb d1
    by_cases hq8 : q < 8
    · have hq8' : (q : Int) < s.ord.length := by have := HO8.out; omega
      have hqo := HOl.out q hq8
      obtain ⟨gb, ob, rfl, hgb, la, lc, l1, l2, l3, l4⟩ := HS.out.row hqo
      have l1 := ((belJ HB.out HBw.out).cell (p := ⟨gb, ob + q, none⟩) hgb).trans l1
      have d1 := (HBw.out.cell (p := ⟨w.heap.size, 1, none⟩) HWs.out).trans c1
      have HIn := hideIt l4
      have HLs := hideIt (HL.out q hq8)
      have HN := hideIt (HNd.out q hq8)
      have HBq := hideIt (fun Z hZ => HBe.out Z hZ q hq8)
      have HSu := hideIt (ovS_succ s q)
      have HLst := hideIt (lstK_at hqo)
      generalize s.ord[q] = L at *
      rw [HLst.out] at HLs HN HSu
      simp only [HLst.out] at HBq
      clear HLst l4 hqo
      unfold maxLen at l3
      go_wp2
      go_loopw [37] (fun i wz => ∃ p : Nat, p ≤ L.length ∧ i = .int .i64 p ∧ EdgO wz W.heap.size m1 m2 m3 s.txs.length v1 g1 v2 g2 v3 g3 (fun i k => ovS s q i k || ovK L p i k) (fun _ _ => false) (fun _ _ => false) ∧ Below W.heap.size W wz) (fun i _ => L.length - (intOf i).toNat)
      case atStart => exact ⟨0, by omega, rfl, HEd.out.same (fun i k _ _ => by rw [ovK_zero, Bool.or_false]) (fun _ _ _ _ => rfl) (fun _ _ _ _ => rfl), HBw.out⟩
      case round =>
        clear HEd l1
        obtain ⟨p, hp, rfl, he, hb⟩ := hrel
        rename World => wz
        have HEd := hideIt he
        have HBz := hideIt hb
        clear he hb
        by_cases hpl : p < L.length
        · have hpl' : (p : Int) < L.length := by omega
          obtain ⟨t, htn, ht⟩ := HLs.out p hpl
          obtain ⟨g, o, rfl, hg, x0⟩ := (HIn.out.below (belJ HB.out HBz.out)).at hpl
          have HCl := hideIt (HBq.out wz HBz.out (t : Int))
          have HBh := hideIt (beh_nd HN.out hpl)
          rw [ht] at x0 HBh
          rw [HBh.out] at HCl
          have HPt : Hid (∀ b : Nat, L[p + 1]? = some (b : Int) → ∀ i k, (if i = t ∧ k = b then true else (ovS s q i k || ovK L p i k)) = (ovS s q i k || ovK L (p + 1) i k)) := fun b hb i k => by
            rw [← ovK_put (List.getElem?_eq_getElem hpl ▸ (by rw [ht]) : L[p]? = some (t : Int)) hb]
            by_cases e : i = t ∧ k = b
            · rw [if_pos e, if_pos e]; simp
            · rw [if_neg e, if_neg e]
          have HLa : Hid (p + 1 = L.length → ∀ i k, ovK L (p + 1) i k = ovK L p i k) := fun e i k => ovK_last e i k
          go_wp2_with fail
          refine HCl.out.mono ?_
          rintro e wy ⟨rfl, rfl⟩
          clear HCl HBh
          by_cases hpn : p + 1 < L.length
          · obtain ⟨b2, hbn, hbt⟩ := HLs.out (p + 1) hpn
            have e1 : L[p + 1]? = some (b2 : Int) := by rw [List.getElem?_eq_getElem hpn, hbt]
            have HP := hideIt (HPt.out b2 e1)
            rw [e1]
            clear e1 HPt HLa
            simp only [Option.getD_some]
            obtain ⟨gv, ov, cv, r, hr, er, rfl, hcv, k0, k1, k2⟩ := HEd.out.o1.spot HEd.out.l1 htn
            replace k1 := k1 b2 hbn
            replace k2 := k2 b2
            have HE2 := hideIt (HEd.out.put1 (i := t) (k := b2) hr hbn)
            rw [er] at HE2
            have HB2 : Hid (Below W.heap.size W (wy.setCell ⟨r, b2, none⟩ (.bool true))) := HBz.out.setCell (p := ⟨r, b2, none⟩) (by show W.heap.size ≤ r; rw [← er]; exact (HEd.out.o1.from.1 _ (List.getElem_mem hr)).1) _
            have htn' : (t : Int) < s.txs.length := by omega
            have hbn' : (b2 : Int) < s.txs.length := by omega
            go_wp2
            go_roundw
            case rel => exact ⟨p + 1, by omega, by go_num, HE2.out.same (fun i k _ _ => HP.out i k) (fun _ _ _ _ => rfl) (fun _ _ _ _ => rfl), HB2.out⟩
            case measure => simp [intOf]; omega
          · have e1 : L[p + 1]? = none := List.getElem?_eq_none (by omega)
            have HP := hideIt (HLa.out (by omega))
            rw [e1]
            clear e1 HPt HLa
            simp only [Option.getD_none]
            go_wp2
            go_roundw
            case rel => exact ⟨p + 1, by omega, by go_num, HEd.out.same (fun i k _ _ => by rw [HP.out]) (fun _ _ _ _ => rfl) (fun _ _ _ _ => rfl), HBz.out⟩
            case measure => simp [intOf]; omega
        · obtain rfl : p = L.length := by omega
          have HP := hideIt (HEd.out.same (A1' := ovS s (q + 1)) (fun i k _ _ => (HSu.out i k).symm) (fun _ _ _ _ => rfl) (fun _ _ _ _ => rfl))
          clear HSu HEd
          go_wp2
          go_roundw
          case rel => exact ⟨q + 1, by omega, by go_num, HP.out, HBz.out⟩
          case measure => simp [intOf]; omega
    · obtain rfl : q = 8 := by omega
      have hq8' : ¬ ((8 : Nat) : Int) < s.ord.length := by have := HO8.out; omega
      have HEd := hideIt (HEd.out.same (A1' := ovB s) (A2' := seeL s (rdN s 0)) (A3' := anwL s (rdN s 0)) (fun _ _ _ _ => rfl) (fun _ _ _ _ => rfl) (fun _ _ _ _ => rfl))
      have d0 := (HBw.out.cell (p := ⟨w.heap.size, 0, none⟩) HWs.out).trans c0
      have HW : Hid (∀ Z, Below W.heap.size W Z → ∀ f : Nat, (hf : f < s.txs.length) → ∀ (key : Int), ∃ g off oa oc, a = some ⟨g, off, none⟩ ∧ g < W.heap.size ∧ Z.cell? ⟨g, off + f * 2, none⟩ = some (.slice oa (txI s (f : Int)).ops.length oc) ∧ Z.cell? ⟨g, off + f * 2 + 1, none⟩ = some (.bool (comI s (f : Int))) ∧ (∀ Z', Below W.heap.size W Z' → Calls Tryd.prog 20 #[.agg #[.slice oa (txI s (f : Int)).ops.length oc, .bool (comI s (f : Int))], .int .i64 key] Z' fun e w' => e = .returned (.int .i64 (wroI s (f : Int) key : Nat)) ∧ Below Z'.heap.size Z' w') ∧ (∀ Z', Below W.heap.size W Z' → IOpsQ Z' oa (txI s (f : Int)).ops) ∧ (txI s (f : Int)).ops.length ≤ maxLen) := fun Z hZ f hf key => by
        obtain ⟨g, off, e, hg, oa, oc, o1, o2, o3, o4, o5⟩ := (HS.out.below HB.out).tx hf
        have e2 : comI s (f : Int) = s.txs[f].com := by unfold comI; rw [txI_at hf]
        have e3 : wroI s (f : Int) key = wroT ⟨s.txs[f].ops, s.txs[f].com⟩ key := by unfold wroI; rw [txI_at hf]
        rw [e2, e3, txI_at hf]
        exact ⟨g, off, oa, oc, e, hg, (hZ.cell (p := ⟨g, off + f * 2, none⟩) hg).trans o1, (hZ.cell (p := ⟨g, off + f * 2 + 1, none⟩) hg).trans o5, fun Z' hZ' => wrote_any _ _ key oa oc Z' o3 (o4.below hZ'), fun Z' hZ' => o4.below hZ', o3⟩
      clear HNd HNeg HOl
      go_wp2
      go_loopw [58] (fun i wx => ∃ n : Nat, n ≤ s.txs.length ∧ i = .int .i64 n ∧ EdgO wx W.heap.size m1 m2 m3 s.txs.length v1 g1 v2 g2 v3 g3 (ovB s) (seeL s (rdN s n)) (anwL s (rdN s n)) ∧ Below W.heap.size W wx) (fun i _ => s.txs.length - (intOf i).toNat)
      case atStart => exact ⟨0, by omega, rfl, HEd.out, HBw.out⟩
      case round =>
        clear HEd d0
        obtain ⟨n, hn, rfl, he, hb⟩ := hrel
        rename World => wx
        have HEd := hideIt he
        have HBx := hideIt hb
        clear he hb
        by_cases hnl : n < s.txs.length
        · have hnl' : (n : Int) < s.txs.length := by omega
          obtain ⟨g, off, oa, oc, ea, hg, x1, x2, _, hoq, hol⟩ := HW.out wx HBx.out n hnl 0
          have HEa := hideIt ea
          have HOq := hideIt hoq
          have HOn := hideIt (HOp.out n hnl)
          have HQu := hideIt (fun (hc : comI s (n : Int) = false) m => rdP_quiet (s := s) (i := n) hc m)
          have HSk := hideIt (fun (m : Nat) hm h => rdP_skip (s := s) (i := n) (m := m) hm h)
          have HMo := hideIt (fun (hc : comI s (n : Int) = true) (m : Nat) hm h => rdP_more (s := s) (i := n) (m := m) hc hm h)
          have HZe := hideIt (rdP_zero s n)
          have HNx := hideIt (rdN_succ s n)
          rw [ea]
          clear ea hoq
          generalize (txI s (n : Int)).ops = ops at *
          generalize comI s (n : Int) = cm at *
          have hB3 := HEd.out.le
          have HEd := hideIt (HEd.out.below (belA (Below.refl wx.heap.size wx) (.cells #[.slice oa ops.length oc, .bool cm] 62)))
          have HBx := hideIt (belA HBx.out (.cells #[.slice oa ops.length oc, .bool cm] 62))
          obtain ⟨y0, y1⟩ := box2 wx (.slice oa ops.length oc) (.bool cm) 62
          unfold maxLen at hol
          go_wp2
          generalize hX1 : wx.alloc _ = X1 at HEd HBx y0 y1 ⊢
          clear hX1 x1 x2 y0
          generalize wx.heap.size = Bt at *
          go_loopw [66] (fun i wv => ∃ m : Nat, m ≤ ops.length ∧ i = .int .i64 m ∧ EdgO wv W.heap.size m1 m2 m3 s.txs.length v1 g1 v2 g2 v3 g3 (ovB s) (seeL s (rdP s n m)) (anwL s (rdP s n m)) ∧ wv.cell? ⟨Bt, 1, none⟩ = some (.bool cm) ∧ Below W.heap.size W wv) (fun i _ => ops.length - (intOf i).toNat)
          case atStart => exact ⟨0, by omega, rfl, by rw [HZe.out]; exact HEd.out, y1, HBx.out⟩
          case round =>
            clear HEd HBx y1 HZe
            obtain ⟨m, hm, rfl, he, y1, hb⟩ := hrel
            rename World => wv
            have HEd := hideIt he
            have HBv := hideIt hb
            clear he hb
            by_cases hml : m < ops.length
            · have hml' : (m : Int) < ops.length := by omega
              obtain ⟨g4, off4, rfl, hg4, p1, p2, p3, p4⟩ := (HOq.out wv HBv.out).at hml
              obtain ⟨f1, f2, f3, f4, f5, f6⟩ := fltP_zero (HOn.out m hml)
              have HSk := hideIt (HSk.out m hml)
              have HMo := hideIt (fun hc => HMo.out hc m hml)
              generalize ops[m] = o at *
              obtain ⟨owr, okey, ofrm, onum⟩ := o
              dsimp only at f1 f2 f3 f4 f5 f6
              have hBo := HEd.out.le
              have e0 := cellA (o := (.cells #[.bool owr, .int .i64 okey, .int .i64 ofrm, .int .i64 onum] 68)) ((HBv.out.cell (p := ⟨w.heap.size, 0, none⟩) HWs.out).trans c0)
              have y1 := cellA (o := (.cells #[.bool owr, .int .i64 okey, .int .i64 ofrm, .int .i64 onum] 68)) y1
              have HEd := hideIt (HEd.out.below (belA (Below.refl wv.heap.size wv) (.cells #[.bool owr, .int .i64 okey, .int .i64 ofrm, .int .i64 onum] 68)))
              have HBv := hideIt (belA HBv.out (.cells #[.bool owr, .int .i64 okey, .int .i64 ofrm, .int .i64 onum] 68))
              have q0 : (wv.alloc (.cells #[.bool owr, .int .i64 okey, .int .i64 ofrm, .int .i64 onum] 68)).cell? ⟨wv.heap.size, 0, none⟩ = some (.bool owr) := by simp
              have q1 : (wv.alloc (.cells #[.bool owr, .int .i64 okey, .int .i64 ofrm, .int .i64 onum] 68)).cell? ⟨wv.heap.size, 1, none⟩ = some (.int .i64 okey) := by simp
              have q2 : (wv.alloc (.cells #[.bool owr, .int .i64 okey, .int .i64 ofrm, .int .i64 onum] 68)).cell? ⟨wv.heap.size, 2, none⟩ = some (.int .i64 ofrm) := by simp
              have q3 : (wv.alloc (.cells #[.bool owr, .int .i64 okey, .int .i64 ofrm, .int .i64 onum] 68)).cell? ⟨wv.heap.size, 3, none⟩ = some (.int .i64 onum) := by simp
              go_upto_region 21 with fail
              generalize (wv.alloc _) = V at e0 y1 HEd HBv q0 q1 q2 q3 ⊢
              generalize wv.heap.size = Bo at *
              clear p1 p2 p3 p4 HOq
              cases cm
              · have HP := hideIt (HQu.out rfl)
                go_wp2
                go_roundw
                case rel => exact ⟨m + 1, by omega, by go_num, by rw [HP.out (m + 1), ← HP.out m]; exact HEd.out, y1, HBv.out⟩
                case measure => simp [intOf]; omega
              · cases owr
                rotate_left 1
                · have HP := hideIt (HSk.out rfl)
                  go_wp2
                  go_roundw
                  case rel => exact ⟨m + 1, by omega, by go_num, by rw [HP.out]; exact HEd.out, y1, HBv.out⟩
                  case measure => simp [intOf]; omega
                have HP := hideIt (HMo.out rfl rfl)
                clear HSk HMo HQu
                have hrd := f6 rfl
                obtain ⟨ky, rfl⟩ := Int.eq_ofNat_of_zero_le f1.1
                have HYc : Hid (∀ y, y = behV (lstK s (ky : Int)) ofrm → y = -1 ∨ ∃ b : Nat, b < s.txs.length ∧ y = (b : Int)) := fun y hy => by
                  rcases beh_cases (lstK s (ky : Int)) ofrm with h | h
                  · exact .inl (hy.trans h)
                  · obtain ⟨j, hj, ej⟩ := List.getElem_of_mem h
                    obtain ⟨t, ht, et⟩ := HL.out ky (by omega) j hj
                    exact .inr ⟨t, ht, by rw [hy, ← ej, et]⟩
                by_cases hf0 : ofrm = -1
                · subst hf0
                  have HA := hideIt (anw_step (s := s) HP.out rfl)
                  have HSe := hideIt ((see_step (s := s) HP.out rfl).1 rfl)
                  dsimp only at HA
                  have HE1 := hideIt (HEd.out.same (fun _ _ _ _ => rfl) (fun a b _ _ => HSe.out a b) (fun _ _ _ _ => rfl))
                  clear HSe HEd HP
                  go_upto_region 22 with fail
                  go_quiet (fail)
                  generalize hV2 : World.drewN V _ = V2
                  have HEd : Hid (EdgO V2 W.heap.size m1 m2 m3 s.txs.length v1 g1 v2 g2 v3 g3 (ovB s) (seeL s (rdP s n (m + 1))) (anwL s (rdP s n m))) := by rw [← hV2]; exact HE1.out.below (below_drewN (Below.refl _ _) _)
                  have HBZ : Hid (Below W.heap.size W V2) := by rw [← hV2]; exact below_drewN HBv.out _
                  have y1 : V2.cell? ⟨Bt, 1, none⟩ = some (.bool true) := by rw [← hV2]; exact y1
                  have q1 : V2.cell? ⟨Bo, 1, none⟩ = some (.int .i64 (ky : Int)) := by rw [← hV2]; exact q1
                  have q2 : V2.cell? ⟨Bo, 2, none⟩ = some (.int .i64 (-1)) := by rw [← hV2]; exact q2
                  clear HE1 HBv hV2
                  have HCl := hideIt (HBe.out V2 HBZ.out ky (by omega) (-1))
                  go_wp2_with fail
                  refine HCl.out.mono ?_
                  rintro e Zt ⟨rfl, rfl⟩
                  clear HCl
                  have HY := hideIt (HYc.out _ rfl)
                  generalize behV (lstK s (ky : Int)) (-1) = y at HA HY ⊢
                  rcases HY.out with rfl | ⟨b2, hbn, rfl⟩
                  · have HE3 := hideIt (HEd.out.same (fun _ _ _ _ => rfl) (fun _ _ _ _ => rfl) (fun a b _ _ => HA.out.1 (.inl rfl) a b))
                    clear HA HY HEd
                    go_wp2
                    go_roundw
                    case rel => exact ⟨m + 1, by omega, by go_num, HE3.out, y1, HBZ.out⟩
                    case measure => simp [intOf]; omega
                  · by_cases hbe : b2 = n
                    · have HE3 := hideIt (HEd.out.same (fun _ _ _ _ => rfl) (fun _ _ _ _ => rfl) (fun a b _ _ => HA.out.1 (.inr (by rw [hbe])) a b))
                      have e9 : ((b2 : Int) != (n : Int)) = false := by rw [hbe]; simp
                      clear HA HY HEd hbe
                      go_wp2
                      go_roundw
                      case rel => exact ⟨m + 1, by omega, by go_num, HE3.out, y1, HBZ.out⟩
                      case measure => simp [intOf]; omega
                    · have e9 : ((b2 : Int) != (n : Int)) = true := by rw [bne_iff_ne]; omega
                      have HP := hideIt (HA.out.2 b2 rfl hbe)
                      clear HA HY hbe
                      obtain ⟨gv, ov, cv, r, hr, er, rfl, hcv, k0, k1, k2⟩ := HEd.out.o3.spot HEd.out.l3 hnl
                      replace k1 := k1 b2 hbn
                      replace k2 := k2 b2
                      have hrm : r < m3 := by rw [← er]; exact HEd.out.u3.1 _ (List.getElem_mem hr)
                      have HE2 := hideIt (HEd.out.put3 (i := n) (k := b2) hr hbn)
                      rw [er] at HE2
                      have HB2 : Hid (Below W.heap.size W (Zt.setCell ⟨r, b2, none⟩ (.bool true))) := HBZ.out.setCell (p := ⟨r, b2, none⟩) (by show W.heap.size ≤ r; rw [← er]; have := (HEd.out.o3.from.1 _ (List.getElem_mem hr)).1; have := HEd.out.le1; have := HEd.out.le2; omega) _
                      have HC2 : Hid ((Zt.setCell ⟨r, b2, none⟩ (.bool true)).cell? ⟨Bt, 1, none⟩ = some (.bool true)) := (World.cell?_setCell_other _ _ _ _ (blkNe (by omega))).trans y1
                      have hbn' : (b2 : Int) < s.txs.length := by omega
                      clear HEd HBZ
                      go_wp2
                      go_roundw
                      case rel => exact ⟨m + 1, by omega, by go_num, HE2.out.same (fun _ _ _ _ => rfl) (fun _ _ _ _ => rfl) (fun a b _ _ => HP.out a b), HC2.out, HB2.out⟩
                      case measure => simp [intOf]; omega
                obtain ⟨fr, rfl⟩ := Int.eq_ofNat_of_zero_le (show 0 ≤ ofrm by omega)
                have hfr : fr < s.txs.length := by omega
                have hfr' : (fr : Int) < s.txs.length := by omega
                have e1 : ((fr : Int) == -1) = false := by rw [beq_eq_false_iff_ne]; exact hf0
                obtain ⟨gx, ox, oa2, oc2, ea2, hgx, x1, x2, hwr, _, _⟩ := HW.out V HBv.out fr hfr (ky : Int)
                obtain ⟨rfl, rfl⟩ : g = gx ∧ off = ox := by
                  have := HEa.out.symm.trans ea2
                  simp at this
                  exact this
                have HWr := hideIt hwr
                have hwb := HWro.out fr hfr (ky : Int)
                rw [HEa.out] at e0
                clear hwr ea2
                cases hcf : comI s (fr : Int)
                · have HOff := hideIt (both_off (s := s) HP.out (by dsimp only; rw [e1, hcf]; rfl))
                  rw [hcf] at x2
                  have HE3 := hideIt (HEd.out.same (fun _ _ _ _ => rfl) (fun a b _ _ => HOff.out.1 a b) (fun a b _ _ => HOff.out.2 a b))
                  clear HOff HEd HP HWr HYc hcf
                  go_wp2
                  go_roundw
                  case rel => exact ⟨m + 1, by omega, by go_num, HE3.out, y1, HBv.out⟩
                  case measure => simp [intOf]; omega
                rw [hcf] at x2 HWr
                have HA := hideIt (anw_step (s := s) HP.out (by dsimp only; rw [e1, hcf]; rfl))
                have HSe := hideIt (see_step (s := s) HP.out (by dsimp only; rw [e1, hcf]; rfl))
                dsimp only at HA
                clear HP
                have HLb : Hid ((fr ≠ n → (othB n ⟨false, ky, fr, onum⟩ && lastB (verF s) ⟨false, ky, fr, onum⟩) = (onum + 1 == (wroI s (fr : Int) (ky : Int) : Int))) ∧ (fr = n → (othB n ⟨false, ky, fr, onum⟩ && lastB (verF s) ⟨false, ky, fr, onum⟩) = false)) := by
                  unfold othB lastB verF
                  dsimp only
                  rw [Int.toNat_natCast, Int.toNat_natCast]
                  refine ⟨fun h => ?_, fun h => by rw [h]; simp⟩
                  have h1 : ((fr : Int) != -1) = true := by rw [bne_iff_ne]; omega
                  have h2 : ((fr : Int) != (n : Int)) = true := by rw [bne_iff_ne]; omega
                  rw [h1, h2, Bool.true_and, Bool.true_and]
                  by_cases h3 : onum + 1 = (wroI s (fr : Int) (ky : Int) : Int)
                  · rw [beq_iff_eq.2 h3, beq_iff_eq]; omega
                  · rw [beq_eq_false_iff_ne.2 h3, beq_eq_false_iff_ne]; omega
                have hn60 : onum < 60 := by
                  rcases hrd.2 with h | h
                  · exact absurd h hf0
                  · have := h.2.2.2; dsimp only at this; omega
                by_cases hfn : fr = n
                · have e2 : ((fr : Int) != (n : Int)) = false := by rw [hfn]; simp
                  have HE1 := hideIt (HEd.out.same (fun _ _ _ _ => rfl) (fun a b _ _ => HSe.out.1 (HLb.out.2 hfn) a b) (fun _ _ _ _ => rfl))
                  clear HSe HEd HLb hfn HWr hf0 hrd hcf
                  go_upto_region 22 with fail
                  go_quiet (fail)
                  generalize hV2 : World.drewN V _ = V2
                  have HEd : Hid (EdgO V2 W.heap.size m1 m2 m3 s.txs.length v1 g1 v2 g2 v3 g3 (ovB s) (seeL s (rdP s n (m + 1))) (anwL s (rdP s n m))) := by rw [← hV2]; exact HE1.out.below (below_drewN (Below.refl _ _) _)
                  have HBZ : Hid (Below W.heap.size W V2) := by rw [← hV2]; exact below_drewN HBv.out _
                  have y1 : V2.cell? ⟨Bt, 1, none⟩ = some (.bool true) := by rw [← hV2]; exact y1
                  have q1 : V2.cell? ⟨Bo, 1, none⟩ = some (.int .i64 (ky : Int)) := by rw [← hV2]; exact q1
                  have q2 : V2.cell? ⟨Bo, 2, none⟩ = some (.int .i64 (fr : Int)) := by rw [← hV2]; exact q2
                  clear HE1 HBv hV2
                  have HCl := hideIt (HBe.out V2 HBZ.out ky (by omega) ((fr : Int)))
                  go_wp2_with fail
                  refine HCl.out.mono ?_
                  rintro e Zt ⟨rfl, rfl⟩
                  clear HCl
                  have HY := hideIt (HYc.out _ rfl)
                  generalize behV (lstK s (ky : Int)) ((fr : Int)) = y at HA HY ⊢
                  rcases HY.out with rfl | ⟨b2, hbn, rfl⟩
                  · have HE3 := hideIt (HEd.out.same (fun _ _ _ _ => rfl) (fun _ _ _ _ => rfl) (fun a b _ _ => HA.out.1 (.inl rfl) a b))
                    clear HA HY HEd
                    go_wp2
                    go_roundw
                    case rel => exact ⟨m + 1, by omega, by go_num, HE3.out, y1, HBZ.out⟩
                    case measure => simp [intOf]; omega
                  · by_cases hbe : b2 = n
                    · have HE3 := hideIt (HEd.out.same (fun _ _ _ _ => rfl) (fun _ _ _ _ => rfl) (fun a b _ _ => HA.out.1 (.inr (by rw [hbe])) a b))
                      have e9 : ((b2 : Int) != (n : Int)) = false := by rw [hbe]; simp
                      clear HA HY HEd hbe
                      go_wp2
                      go_roundw
                      case rel => exact ⟨m + 1, by omega, by go_num, HE3.out, y1, HBZ.out⟩
                      case measure => simp [intOf]; omega
                    · have e9 : ((b2 : Int) != (n : Int)) = true := by rw [bne_iff_ne]; omega
                      have HP := hideIt (HA.out.2 b2 rfl hbe)
                      clear HA HY hbe
                      obtain ⟨gv, ov, cv, r, hr, er, rfl, hcv, k0, k1, k2⟩ := HEd.out.o3.spot HEd.out.l3 hnl
                      replace k1 := k1 b2 hbn
                      replace k2 := k2 b2
                      have hrm : r < m3 := by rw [← er]; exact HEd.out.u3.1 _ (List.getElem_mem hr)
                      have HE2 := hideIt (HEd.out.put3 (i := n) (k := b2) hr hbn)
                      rw [er] at HE2
                      have HB2 : Hid (Below W.heap.size W (Zt.setCell ⟨r, b2, none⟩ (.bool true))) := HBZ.out.setCell (p := ⟨r, b2, none⟩) (by show W.heap.size ≤ r; rw [← er]; have := (HEd.out.o3.from.1 _ (List.getElem_mem hr)).1; have := HEd.out.le1; have := HEd.out.le2; omega) _
                      have HC2 : Hid ((Zt.setCell ⟨r, b2, none⟩ (.bool true)).cell? ⟨Bt, 1, none⟩ = some (.bool true)) := (World.cell?_setCell_other _ _ _ _ (blkNe (by omega))).trans y1
                      have hbn' : (b2 : Int) < s.txs.length := by omega
                      clear HEd HBZ
                      go_wp2
                      go_roundw
                      case rel => exact ⟨m + 1, by omega, by go_num, HE2.out.same (fun _ _ _ _ => rfl) (fun _ _ _ _ => rfl) (fun a b _ _ => HP.out a b), HC2.out, HB2.out⟩
                      case measure => simp [intOf]; omega
                have e2 : ((fr : Int) != (n : Int)) = true := by rw [bne_iff_ne]; omega
                have HLb := hideIt (HLb.out.1 hfn)
                rw [HLb.out] at HSe
                clear HLb hfn hf0 hrd hcf
                have HSz2 : Hid (w.heap.size < V.heap.size ∧ Bo < V.heap.size ∧ g < V.heap.size ∧ Bt < V.heap.size) := ⟨World.block_lt_of_cell? V _ e0, World.block_lt_of_cell? V _ q0, World.block_lt_of_cell? V _ x1, World.block_lt_of_cell? V _ y1⟩
                have HX : Hid (∀ Z, Below V.heap.size V Z → Z.cell? ⟨w.heap.size, 0, none⟩ = some (.slice (some ⟨g, off, none⟩) s.txs.length ca) ∧ Z.cell? ⟨Bt, 1, none⟩ = some (.bool true) ∧ Z.cell? ⟨Bo, 1, none⟩ = some (.int .i64 (ky : Int)) ∧ Z.cell? ⟨Bo, 2, none⟩ = some (.int .i64 (fr : Int)) ∧ Z.cell? ⟨Bo, 3, none⟩ = some (.int .i64 onum) ∧ Z.cell? ⟨g, off + fr * 2, none⟩ = some (.slice oa2 (txI s (fr : Int)).ops.length oc2) ∧ Z.cell? ⟨g, off + fr * 2 + 1, none⟩ = some (.bool true)) := fun Z hZ =>
                  ⟨(hZ.cell (p := ⟨w.heap.size, 0, none⟩) HSz2.out.1).trans e0, (hZ.cell (p := ⟨Bt, 1, none⟩) HSz2.out.2.2.2).trans y1, (hZ.cell (p := ⟨Bo, 1, none⟩) HSz2.out.2.1).trans q1, (hZ.cell (p := ⟨Bo, 2, none⟩) HSz2.out.2.1).trans q2, (hZ.cell (p := ⟨Bo, 3, none⟩) HSz2.out.2.1).trans q3, (hZ.cell (p := ⟨g, off + fr * 2, none⟩) HSz2.out.2.2.1).trans x1, (hZ.cell (p := ⟨g, off + fr * 2 + 1, none⟩) HSz2.out.2.2.1).trans x2⟩
                generalize (txI s (fr : Int)).ops.length = nl at *
                generalize wroI s (fr : Int) (ky : Int) = x at *
                have hwp : IntKind.i64.wrap (onum + 1) = onum + 1 := by rw [IntKind.wrap_i64]; omega
                go_upto_region 22 with fail
                clear q0 q1 q2 q3 x1 x2 e0 y1
                refine wp_region_held_drew (S := (fun w' => Below V.heap.size V w')) (by kernel_rfl) (Below.refl _ _).drew (fun hHeld => ?_)
                refine wpAnyH_take (i := 0) (v := ?_) rfl (by kernel_rfl) (by kernel_rfl) (by kernel_rfl) (fun _ _ _ h => h) (Or.inl ⟨by rfl, ?_⟩) (by assumption) ?_
                rotate_left 1
                · intro wz sb
                  obtain ⟨z0, z1, z2, z3, z4, z5, z6⟩ := HX.out wz sb
                  go_simp
                  all_goals with_reducible rfl
                simp only [Act.put, List.setIfInBounds_toArray, List.set_cons_zero, List.set_cons_succ, List.getElem_toArray, List.getElem_cons_zero]
                refine wpAnyH_take (i := 1) (v := ?_) rfl (by kernel_rfl) (by kernel_rfl) (by kernel_rfl) (fun _ _ _ h => h) (Or.inl ⟨by rfl, ?_⟩) (by assumption) ?_
                rotate_left 1
                · intro wz sb
                  obtain ⟨z0, z1, z2, z3, z4, z5, z6⟩ := HX.out wz sb
                  go_simp
                  all_goals with_reducible rfl
                simp only [Act.put, List.setIfInBounds_toArray, List.set_cons_zero, List.set_cons_succ, List.getElem_toArray, List.getElem_cons_zero, List.getElem_cons_succ]
                refine wpAnyH_take (i := 2) (v := ?_) rfl (by kernel_rfl) (by kernel_rfl) (by kernel_rfl) (fun _ _ _ h => h) (Or.inl ⟨by rfl, ?_⟩) (by assumption) ?_
                rotate_left 1
                · intro wz sb
                  obtain ⟨z0, z1, z2, z3, z4, z5, z6⟩ := HX.out wz sb
                  go_simp
                  all_goals with_reducible rfl
                simp only [Act.put, List.setIfInBounds_toArray, List.set_cons_zero, List.set_cons_succ, List.getElem_toArray, List.getElem_cons_zero, List.getElem_cons_succ]
                refine wpAnyH_take (i := 3) (v := ?_) rfl (by kernel_rfl) (by kernel_rfl) (by kernel_rfl) (fun _ _ _ h => h) (Or.inl ⟨by rfl, ?_⟩) (by assumption) ?_
                rotate_left 1
                · intro wz sb
                  obtain ⟨z0, z1, z2, z3, z4, z5, z6⟩ := HX.out wz sb
                  go_simp
                  all_goals with_reducible rfl
                simp only [Act.put, List.setIfInBounds_toArray, List.set_cons_zero, List.set_cons_succ, List.getElem_toArray, List.getElem_cons_zero, List.getElem_cons_succ]
                refine wpAnyH_take (i := 4) (v := ?_) rfl (by kernel_rfl) (by kernel_rfl) (by kernel_rfl) (fun _ _ _ h => h) (Or.inl ⟨by rfl, ?_⟩) (by assumption) ?_
                rotate_left 1
                · intro wz sb
                  obtain ⟨z0, z1, z2, z3, z4, z5, z6⟩ := HX.out wz sb
                  go_simp
                  all_goals with_reducible rfl
                simp only [Act.put, List.setIfInBounds_toArray, List.set_cons_zero, List.set_cons_succ, List.getElem_toArray, List.getElem_cons_zero, List.getElem_cons_succ]
                refine wpAnyH_take (i := 5) (v := ?_) rfl (by kernel_rfl) (by kernel_rfl) (by kernel_rfl) (fun _ _ _ h => h) (Or.inl ⟨by rfl, ?_⟩) (by assumption) ?_
                rotate_left 1
                · intro wz sb
                  obtain ⟨z0, z1, z2, z3, z4, z5, z6⟩ := HX.out wz sb
                  go_simp
                  all_goals with_reducible rfl
                simp only [Act.put, List.setIfInBounds_toArray, List.set_cons_zero, List.set_cons_succ, List.getElem_toArray, List.getElem_cons_zero, List.getElem_cons_succ]
                refine wpAnyH_take (i := 6) (v := ?_) rfl (by kernel_rfl) (by kernel_rfl) (by kernel_rfl) (fun _ _ _ h => h) (Or.inl ⟨by rfl, ?_⟩) (by assumption) ?_
                rotate_left 1
                · intro wz sb
                  obtain ⟨z0, z1, z2, z3, z4, z5, z6⟩ := HX.out wz sb
                  go_simp
                  all_goals with_reducible rfl
                simp only [Act.put, List.setIfInBounds_toArray, List.set_cons_zero, List.set_cons_succ, List.getElem_toArray, List.getElem_cons_zero, List.getElem_cons_succ]
                refine wpAnyH_take (i := 7) (v := ?_) rfl (by kernel_rfl) (by kernel_rfl) (by kernel_rfl) (fun _ _ _ h => h) (Or.inl ⟨by rfl, ?_⟩) (by assumption) ?_
                rotate_left 1
                · intro wz sb
                  obtain ⟨z0, z1, z2, z3, z4, z5, z6⟩ := HX.out wz sb
                  go_simp
                  all_goals with_reducible rfl
                simp only [Act.put, List.setIfInBounds_toArray, List.set_cons_zero, List.set_cons_succ, List.getElem_toArray, List.getElem_cons_zero, List.getElem_cons_succ]
                refine wpAnyH_take (i := 8) (v := ?_) rfl (by kernel_rfl) (by kernel_rfl) (by kernel_rfl) (fun _ _ _ h => h) (Or.inl ⟨by rfl, ?_⟩) (by assumption) ?_
                rotate_left 1
                · intro wz sb
                  obtain ⟨z0, z1, z2, z3, z4, z5, z6⟩ := HX.out wz sb
                  go_simp
                  all_goals with_reducible rfl
                simp only [Act.put, List.setIfInBounds_toArray, List.set_cons_zero, List.set_cons_succ, List.getElem_toArray, List.getElem_cons_zero, List.getElem_cons_succ]
                refine wpAnyH_take (i := 9) (v := ?_) rfl (by kernel_rfl) (by kernel_rfl) (by kernel_rfl) (fun _ _ _ h => h) (Or.inl ⟨by rfl, ?_⟩) (by assumption) ?_
                rotate_left 1
                · intro wz sb
                  obtain ⟨z0, z1, z2, z3, z4, z5, z6⟩ := HX.out wz sb
                  go_simp
                  all_goals with_reducible rfl
                simp only [Act.put, List.setIfInBounds_toArray, List.set_cons_zero, List.set_cons_succ, List.getElem_toArray, List.getElem_cons_zero, List.getElem_cons_succ]
                refine wpAnyH_take (i := 10) (v := ?_) rfl (by kernel_rfl) (by kernel_rfl) (by kernel_rfl) (fun _ _ _ h => h) (Or.inl ⟨by rfl, ?_⟩) (by assumption) ?_
                rotate_left 1
                · intro wz sb
                  obtain ⟨z0, z1, z2, z3, z4, z5, z6⟩ := HX.out wz sb
                  go_simp
                  all_goals with_reducible rfl
                simp only [Act.put, List.setIfInBounds_toArray, List.set_cons_zero, List.set_cons_succ, List.getElem_toArray, List.getElem_cons_zero, List.getElem_cons_succ]
                refine wpAnyH_take (i := 11) (v := ?_) rfl (by kernel_rfl) (by kernel_rfl) (by kernel_rfl) (fun _ _ _ h => h) (Or.inl ⟨by rfl, ?_⟩) (by assumption) ?_
                rotate_left 1
                · intro wz sb
                  obtain ⟨z0, z1, z2, z3, z4, z5, z6⟩ := HX.out wz sb
                  go_simp
                  all_goals with_reducible rfl
                simp only [Act.put, List.setIfInBounds_toArray, List.set_cons_zero, List.set_cons_succ, List.getElem_toArray, List.getElem_cons_zero, List.getElem_cons_succ]
                refine wpAnyH_take (i := 12) (v := ?_) rfl (by kernel_rfl) (by kernel_rfl) (by kernel_rfl) (fun _ _ _ h => h) (Or.inl ⟨by rfl, ?_⟩) (by assumption) ?_
                rotate_left 1
                · intro wz sb
                  obtain ⟨z0, z1, z2, z3, z4, z5, z6⟩ := HX.out wz sb
                  go_simp
                  all_goals with_reducible rfl
                simp only [Act.put, List.setIfInBounds_toArray, List.set_cons_zero, List.set_cons_succ, List.getElem_toArray, List.getElem_cons_zero, List.getElem_cons_succ]
                refine wpAnyH_take (i := 13) (v := ?_) rfl (by kernel_rfl) (by kernel_rfl) (by kernel_rfl) (fun _ _ _ h => h) (Or.inl ⟨by rfl, ?_⟩) (by assumption) ?_
                rotate_left 1
                · intro wz sb
                  obtain ⟨z0, z1, z2, z3, z4, z5, z6⟩ := HX.out wz sb
                  go_simp
                  all_goals with_reducible rfl
                simp only [Act.put, List.setIfInBounds_toArray, List.set_cons_zero, List.set_cons_succ, List.getElem_toArray, List.getElem_cons_zero, List.getElem_cons_succ]
                refine wpAnyH_take (i := 14) (v := ?_) rfl (by kernel_rfl) (by kernel_rfl) (by kernel_rfl) (fun _ _ _ h => h) (Or.inl ⟨by rfl, ?_⟩) (by assumption) ?_
                rotate_left 1
                · intro wz sb
                  obtain ⟨z0, z1, z2, z3, z4, z5, z6⟩ := HX.out wz sb
                  go_simp
                  all_goals with_reducible rfl
                simp only [Act.put, List.setIfInBounds_toArray, List.set_cons_zero, List.set_cons_succ, List.getElem_toArray, List.getElem_cons_zero, List.getElem_cons_succ]
                refine wpAnyH_take (i := 15) (v := ?_) rfl (by kernel_rfl) (by kernel_rfl) (by kernel_rfl) (fun _ _ _ h => h) (Or.inl ⟨by rfl, ?_⟩) (by assumption) ?_
                rotate_left 1
                · intro wz sb
                  obtain ⟨z0, z1, z2, z3, z4, z5, z6⟩ := HX.out wz sb
                  go_simp
                  all_goals with_reducible rfl
                simp only [Act.put, List.setIfInBounds_toArray, List.set_cons_zero, List.set_cons_succ, List.getElem_toArray, List.getElem_cons_zero, List.getElem_cons_succ]
                refine wpAnyH_take (i := 16) (v := ?_) rfl (by kernel_rfl) (by kernel_rfl) (by kernel_rfl) (fun _ _ _ h => h) (Or.inl ⟨by rfl, ?_⟩) (by assumption) ?_
                rotate_left 1
                · intro wz sb
                  obtain ⟨z0, z1, z2, z3, z4, z5, z6⟩ := HX.out wz sb
                  go_simp
                  all_goals with_reducible rfl
                simp only [Act.put, List.setIfInBounds_toArray, List.set_cons_zero, List.set_cons_succ, List.getElem_toArray, List.getElem_cons_zero, List.getElem_cons_succ]
                refine wpAnyH_take (i := 17) (v := ?_) rfl (by kernel_rfl) (by kernel_rfl) (by kernel_rfl) (fun _ _ _ h => h) (Or.inl ⟨by rfl, ?_⟩) (by assumption) ?_
                rotate_left 1
                · intro wz sb
                  obtain ⟨z0, z1, z2, z3, z4, z5, z6⟩ := HX.out wz sb
                  go_simp
                  all_goals with_reducible rfl
                simp only [Act.put, List.setIfInBounds_toArray, List.set_cons_zero, List.set_cons_succ, List.getElem_toArray, List.getElem_cons_zero, List.getElem_cons_succ]
                refine wpAnyH_take (i := 18) (v := ?_) rfl (by kernel_rfl) (by kernel_rfl) (by kernel_rfl) (fun _ _ _ h => h) (Or.inl ⟨by rfl, ?_⟩) (by assumption) ?_
                rotate_left 1
                · intro wz sb
                  obtain ⟨z0, z1, z2, z3, z4, z5, z6⟩ := HX.out wz sb
                  go_simp
                  all_goals with_reducible rfl
                simp only [Act.put, List.setIfInBounds_toArray, List.set_cons_zero, List.set_cons_succ, List.getElem_toArray, List.getElem_cons_zero, List.getElem_cons_succ]
                refine wpAnyH_take (i := 19) (v := ?_) rfl (by kernel_rfl) (by kernel_rfl) (by kernel_rfl) (fun _ _ _ h => h) (Or.inl ⟨by rfl, ?_⟩) (by assumption) ?_
                rotate_left 1
                · intro wz sb
                  obtain ⟨z0, z1, z2, z3, z4, z5, z6⟩ := HX.out wz sb
                  go_simp
                  all_goals with_reducible rfl
                simp only [Act.put, List.setIfInBounds_toArray, List.set_cons_zero, List.set_cons_succ, List.getElem_toArray, List.getElem_cons_zero, List.getElem_cons_succ]
                refine wpAnyH_take (i := 20) (v := ?_) rfl (by kernel_rfl) (by kernel_rfl) (by kernel_rfl) (fun _ _ _ h => h) (Or.inl ⟨by rfl, ?_⟩) (by assumption) ?_
                rotate_left 1
                · intro wz sb
                  obtain ⟨z0, z1, z2, z3, z4, z5, z6⟩ := HX.out wz sb
                  go_simp
                  all_goals with_reducible rfl
                simp only [Act.put, List.setIfInBounds_toArray, List.set_cons_zero, List.set_cons_succ, List.getElem_toArray, List.getElem_cons_zero, List.getElem_cons_succ]
                refine wpAnyH_ready (rs := [21]) (by kernel_rfl) (by simp) (AllReadyH.cons rfl (fun K hK => ?_) AllReadyH.nil)
                go_simp
                refine (HWr.out _ (belJ HBv.out hHeld)).mono ?_
                rintro e V3 ⟨rfl, hb3⟩
                refine hK.out _ _ ?_ (fun hHeld => ?_)
                · exact belJ hHeld hb3
                clear hK K HWr hb3
                by_cases hxo : onum + 1 = (x : Int)
                · have dx : (onum + 1 == (x : Int)) = true := beq_iff_eq.2 hxo
                  have HPs := hideIt (HSe.out.2 fr rfl dx)
                  clear HSe
                  refine wpAnyH_take (i := 22) (v := ?_) rfl (by kernel_rfl) (by kernel_rfl) (by kernel_rfl) (fun _ _ _ h => h) (Or.inl ⟨by rfl, ?_⟩) (by assumption) ?_
                  rotate_left 1
                  · intro wz sb
                    obtain ⟨z0, z1, z2, z3, z4, z5, z6⟩ := HX.out wz sb
                    go_simp
                    all_goals with_reducible rfl
                  simp only [Act.put, List.setIfInBounds_toArray, List.set_cons_zero, List.set_cons_succ, List.getElem_toArray, List.getElem_cons_zero, List.getElem_cons_succ]
                  refine wpAnyH_take (i := 23) (v := ?_) rfl (by kernel_rfl) (by kernel_rfl) (by kernel_rfl) (fun _ _ _ h => h) (Or.inl ⟨by rfl, ?_⟩) (by assumption) ?_
                  rotate_left 1
                  · intro wz sb
                    obtain ⟨z0, z1, z2, z3, z4, z5, z6⟩ := HX.out wz sb
                    go_simp
                    all_goals with_reducible rfl
                  simp only [Act.put, List.setIfInBounds_toArray, List.set_cons_zero, List.set_cons_succ, List.getElem_toArray, List.getElem_cons_zero, List.getElem_cons_succ]
                  refine wpAnyH_done (by kernel_rfl) ?_ _
                  obtain ⟨z0, y1, q1, q2, q3, _, _⟩ := HX.out V3 hHeld
                  clear HX
                  have HEd := hideIt (HEd.out.below hHeld)
                  have HBv := hideIt (belJ HBv.out hHeld)
                  clear hHeld hxo
                  obtain ⟨gv, ov, cv, r, hr, er, rfl, hcv, k0, k1, k2⟩ := HEd.out.o2.spot HEd.out.l2 hfr
                  replace k1 := k1 n hnl
                  replace k2 := k2 n
                  have hrm : r < m3 := by rw [← er]; have := HEd.out.u2.1 _ (List.getElem_mem hr); have := HEd.out.le3; omega
                  have HE2 := hideIt (HEd.out.put2 (i := fr) (k := n) hr hnl)
                  rw [er] at HE2
                  have HB2 : Hid (Below W.heap.size W (V3.setCell ⟨r, n, none⟩ (.bool true))) := HBv.out.setCell (p := ⟨r, n, none⟩) (by show W.heap.size ≤ r; rw [← er]; have := (HEd.out.o2.from.1 _ (List.getElem_mem hr)).1; have := HEd.out.le1; omega) _
                  have w1' : (V3.setCell ⟨r, n, none⟩ (.bool true)).cell? ⟨Bt, 1, none⟩ = some (.bool true) := (World.cell?_setCell_other _ _ _ _ (blkNe (by omega))).trans y1
                  have w2' : (V3.setCell ⟨r, n, none⟩ (.bool true)).cell? ⟨Bo, 1, none⟩ = some (.int .i64 (ky : Int)) := (World.cell?_setCell_other _ _ _ _ (blkNe (by omega))).trans q1
                  have w3' : (V3.setCell ⟨r, n, none⟩ (.bool true)).cell? ⟨Bo, 2, none⟩ = some (.int .i64 (fr : Int)) := (World.cell?_setCell_other _ _ _ _ (blkNe (by omega))).trans q2
                  go_upto_region 24 with fail
                  generalize hV4 : V3.setCell _ _ = V4 at HE2 HB2 w1' w2' w3' ⊢
                  clear hV4 y1 q1 q2 q3 k0 k1 k2 HEd HBv
                  have y1 := w1'
                  have q1 := w2'
                  have q2 := w3'
                  have HBZ := HB2
                  have HEd := hideIt (HE2.out.same (fun _ _ _ _ => rfl) (fun a b _ _ => HPs.out a b) (fun _ _ _ _ => rfl))
                  clear w1' w2' w3' HB2 HE2 HPs
                  have HCl := hideIt (HBe.out V4 HBZ.out ky (by omega) ((fr : Int)))
                  go_wp2_with fail
                  refine HCl.out.mono ?_
                  rintro e Zt ⟨rfl, rfl⟩
                  clear HCl
                  have HY := hideIt (HYc.out _ rfl)
                  generalize behV (lstK s (ky : Int)) ((fr : Int)) = y at HA HY ⊢
                  rcases HY.out with rfl | ⟨b2, hbn, rfl⟩
                  · have HE3 := hideIt (HEd.out.same (fun _ _ _ _ => rfl) (fun _ _ _ _ => rfl) (fun a b _ _ => HA.out.1 (.inl rfl) a b))
                    clear HA HY HEd
                    go_wp2
                    go_roundw
                    case rel => exact ⟨m + 1, by omega, by go_num, HE3.out, y1, HBZ.out⟩
                    case measure => simp [intOf]; omega
                  · by_cases hbe : b2 = n
                    · have HE3 := hideIt (HEd.out.same (fun _ _ _ _ => rfl) (fun _ _ _ _ => rfl) (fun a b _ _ => HA.out.1 (.inr (by rw [hbe])) a b))
                      have e9 : ((b2 : Int) != (n : Int)) = false := by rw [hbe]; simp
                      clear HA HY HEd hbe
                      go_wp2
                      go_roundw
                      case rel => exact ⟨m + 1, by omega, by go_num, HE3.out, y1, HBZ.out⟩
                      case measure => simp [intOf]; omega
                    · have e9 : ((b2 : Int) != (n : Int)) = true := by rw [bne_iff_ne]; omega
                      have HP := hideIt (HA.out.2 b2 rfl hbe)
                      clear HA HY hbe
                      obtain ⟨gv, ov, cv, r, hr, er, rfl, hcv, k0, k1, k2⟩ := HEd.out.o3.spot HEd.out.l3 hnl
                      replace k1 := k1 b2 hbn
                      replace k2 := k2 b2
                      have hrm : r < m3 := by rw [← er]; exact HEd.out.u3.1 _ (List.getElem_mem hr)
                      have HE2 := hideIt (HEd.out.put3 (i := n) (k := b2) hr hbn)
                      rw [er] at HE2
                      have HB2 : Hid (Below W.heap.size W (Zt.setCell ⟨r, b2, none⟩ (.bool true))) := HBZ.out.setCell (p := ⟨r, b2, none⟩) (by show W.heap.size ≤ r; rw [← er]; have := (HEd.out.o3.from.1 _ (List.getElem_mem hr)).1; have := HEd.out.le1; have := HEd.out.le2; omega) _
                      have HC2 : Hid ((Zt.setCell ⟨r, b2, none⟩ (.bool true)).cell? ⟨Bt, 1, none⟩ = some (.bool true)) := (World.cell?_setCell_other _ _ _ _ (blkNe (by omega))).trans y1
                      have hbn' : (b2 : Int) < s.txs.length := by omega
                      clear HEd HBZ
                      go_wp2
                      go_roundw
                      case rel => exact ⟨m + 1, by omega, by go_num, HE2.out.same (fun _ _ _ _ => rfl) (fun _ _ _ _ => rfl) (fun a b _ _ => HP.out a b), HC2.out, HB2.out⟩
                      case measure => simp [intOf]; omega
                · have dx : (onum + 1 == (x : Int)) = false := beq_eq_false_iff_ne.2 hxo
                  have HPs := hideIt (HSe.out.1 dx)
                  clear HSe
                  refine wpAnyH_take (i := 22) (v := ?_) rfl (by kernel_rfl) (by kernel_rfl) (by kernel_rfl) (fun _ _ _ h => h) (Or.inl ⟨by rfl, ?_⟩) (by assumption) ?_
                  rotate_left 1
                  · intro wz sb
                    obtain ⟨z0, z1, z2, z3, z4, z5, z6⟩ := HX.out wz sb
                    go_simp
                    all_goals with_reducible rfl
                  simp only [Act.put, List.setIfInBounds_toArray, List.set_cons_zero, List.set_cons_succ, List.getElem_toArray, List.getElem_cons_zero, List.getElem_cons_succ]
                  refine wpAnyH_take (i := 23) (v := ?_) rfl (by kernel_rfl) (by kernel_rfl) (by kernel_rfl) (fun _ _ _ h => h) (Or.inl ⟨by rfl, ?_⟩) (by assumption) ?_
                  rotate_left 1
                  · intro wz sb
                    obtain ⟨z0, z1, z2, z3, z4, z5, z6⟩ := HX.out wz sb
                    go_simp
                    all_goals with_reducible rfl
                  simp only [Act.put, List.setIfInBounds_toArray, List.set_cons_zero, List.set_cons_succ, List.getElem_toArray, List.getElem_cons_zero, List.getElem_cons_succ]
                  refine wpAnyH_done (by kernel_rfl) ?_ _
                  obtain ⟨z0, y1, q1, q2, q3, _, _⟩ := HX.out V3 hHeld
                  clear HX
                  have HEd := hideIt ((HEd.out.below hHeld).same (fun _ _ _ _ => rfl) (fun a b _ _ => HPs.out a b) (fun _ _ _ _ => rfl))
                  have HBZ := hideIt (belJ HBv.out hHeld)
                  clear hHeld hxo HPs HBv
                  have HCl := hideIt (HBe.out V3 HBZ.out ky (by omega) ((fr : Int)))
                  go_wp2_with fail
                  refine HCl.out.mono ?_
                  rintro e Zt ⟨rfl, rfl⟩
                  clear HCl
                  have HY := hideIt (HYc.out _ rfl)
                  generalize behV (lstK s (ky : Int)) ((fr : Int)) = y at HA HY ⊢
                  rcases HY.out with rfl | ⟨b2, hbn, rfl⟩
                  · have HE3 := hideIt (HEd.out.same (fun _ _ _ _ => rfl) (fun _ _ _ _ => rfl) (fun a b _ _ => HA.out.1 (.inl rfl) a b))
                    clear HA HY HEd
                    go_wp2
                    go_roundw
                    case rel => exact ⟨m + 1, by omega, by go_num, HE3.out, y1, HBZ.out⟩
                    case measure => simp [intOf]; omega
                  · by_cases hbe : b2 = n
                    · have HE3 := hideIt (HEd.out.same (fun _ _ _ _ => rfl) (fun _ _ _ _ => rfl) (fun a b _ _ => HA.out.1 (.inr (by rw [hbe])) a b))
                      have e9 : ((b2 : Int) != (n : Int)) = false := by rw [hbe]; simp
                      clear HA HY HEd hbe
                      go_wp2
                      go_roundw
                      case rel => exact ⟨m + 1, by omega, by go_num, HE3.out, y1, HBZ.out⟩
                      case measure => simp [intOf]; omega
                    · have e9 : ((b2 : Int) != (n : Int)) = true := by rw [bne_iff_ne]; omega
                      have HP := hideIt (HA.out.2 b2 rfl hbe)
                      clear HA HY hbe
                      obtain ⟨gv, ov, cv, r, hr, er, rfl, hcv, k0, k1, k2⟩ := HEd.out.o3.spot HEd.out.l3 hnl
                      replace k1 := k1 b2 hbn
                      replace k2 := k2 b2
                      have hrm : r < m3 := by rw [← er]; exact HEd.out.u3.1 _ (List.getElem_mem hr)
                      have HE2 := hideIt (HEd.out.put3 (i := n) (k := b2) hr hbn)
                      rw [er] at HE2
                      have HB2 : Hid (Below W.heap.size W (Zt.setCell ⟨r, b2, none⟩ (.bool true))) := HBZ.out.setCell (p := ⟨r, b2, none⟩) (by show W.heap.size ≤ r; rw [← er]; have := (HEd.out.o3.from.1 _ (List.getElem_mem hr)).1; have := HEd.out.le1; have := HEd.out.le2; omega) _
                      have HC2 : Hid ((Zt.setCell ⟨r, b2, none⟩ (.bool true)).cell? ⟨Bt, 1, none⟩ = some (.bool true)) := (World.cell?_setCell_other _ _ _ _ (blkNe (by omega))).trans y1
                      have hbn' : (b2 : Int) < s.txs.length := by omega
                      clear HEd HBZ
                      go_wp2
                      go_roundw
                      case rel => exact ⟨m + 1, by omega, by go_num, HE2.out.same (fun _ _ _ _ => rfl) (fun _ _ _ _ => rfl) (fun a b _ _ => HP.out a b), HC2.out, HB2.out⟩
                      case measure => simp [intOf]; omega
            · obtain rfl : m = ops.length := by omega
              have HE3 := HEd
              clear HEd
              go_wp2
              go_roundw
              case rel => exact ⟨n + 1, by omega, by go_num, by rw [HNx.out]; exact HE3.out, HBv.out⟩
              case measure => simp [intOf]; omega
        · obtain rfl : n = s.txs.length := by omega
          have HFin : Hid (ReadM wx v1 s.txs.length (ovB s) ∧ ReadM wx v2 s.txs.length (seB s) ∧ ReadM wx v3 s.txs.length (anB s) ∧ Below w.heap.size w wx) := ⟨HEd.out.o1.readM HEd.out.l1, HEd.out.o2.readM HEd.out.l2, HEd.out.o3.readM HEd.out.l3, belJ HB.out HBx.out⟩
          clear HEd HBx
          go_wp2
          go_ret3
          exact ⟨v1, v2, v3, rfl, HFin.out⟩
end Go.Proofs.YtodanhjookgbeaaDoor
