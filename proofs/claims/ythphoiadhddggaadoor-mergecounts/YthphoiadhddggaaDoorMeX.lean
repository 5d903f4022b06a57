/-
  The statement MergeCounts, walked.
-/
import Derived.Test.YthphoiadhddggaaDoorMeW
import Derived.BigRegion
namespace Go.Proofs.YthphoiadhddggaaDoor
open Go.RowKit

def o14 : Obj := .cells (nL 14 fun _ => 0).toArray 25
def o7 : Obj := .cells (nL 7 fun _ => 0).toArray 23
theorem meI_new (w : World) : MeI w ((((((w.alloc o14).alloc o14).alloc o7).alloc o7).alloc o7).alloc o7) (fun _ => 0) (fun _ => 0) := by
  have e1 : (w.alloc o14).heap.size = w.heap.size + 1 := World.size_alloc ..
  have e2 : ((w.alloc o14).alloc o14).heap.size = w.heap.size + 1 + 1 := by rw [World.size_alloc, e1]
  have e3 : (((w.alloc o14).alloc o14).alloc o7).heap.size = w.heap.size + 1 + 1 + 1 := by rw [World.size_alloc, e2]
  have e4 : ((((w.alloc o14).alloc o14).alloc o7).alloc o7).heap.size = w.heap.size + 1 + 1 + 1 + 1 := by rw [World.size_alloc, e3]
  have e5 : (((((w.alloc o14).alloc o14).alloc o7).alloc o7).alloc o7).heap.size = w.heap.size + 1 + 1 + 1 + 1 + 1 := by rw [World.size_alloc, e4]
  refine ⟨?_, ?_, ?_, ?_, ?_, ?_, belA (belA (belA (belA (belA (belA (Below.refl _ _) _) _) _) _) _) _⟩
  · exact (((((numB_new w 14 (fun _ => 0) 25).alloc _).alloc _).alloc _).alloc _).alloc _
  · have := ((((numB_new (w.alloc o14) 14 (fun _ => 0) 25).alloc o7).alloc o7).alloc o7).alloc o7
    rw [e1] at this
    exact this
  · have := (((numB_new ((w.alloc o14).alloc o14) 7 (fun _ => 0) 23).alloc o7).alloc o7).alloc o7
    rw [e2] at this
    exact this
  · have := ((numB_new (((w.alloc o14).alloc o14).alloc o7) 7 (fun _ => 0) 23).alloc o7).alloc o7
    rw [e3] at this
    exact this
  · have := (numB_new ((((w.alloc o14).alloc o14).alloc o7).alloc o7) 7 (fun _ => 0) 23).alloc o7
    rw [e4] at this
    exact this
  · have := numB_new (((((w.alloc o14).alloc o14).alloc o7).alloc o7).alloc o7) 7 (fun _ => 0) 23
    rw [e5] at this
    exact this
theorem MeI.setC {w wr w' : World} {c d c' : Nat → Int} (h : MeI w wr c d) (hn : NumB w' w.heap.size 14 c') (hg : wr.grownBy w' (some w.heap.size)) (he : c' = c := by rfl) : MeI w w' c d := by
  subst he
  exact ⟨hn, h.db.block (hg.block _ h.db.lt (fun e => by have := Option.some.inj e; omega)), h.ub.block (hg.block _ h.ub.lt (fun e => by have := Option.some.inj e; omega)), h.vb.block (hg.block _ h.vb.lt (fun e => by have := Option.some.inj e; omega)), h.xb.block (hg.block _ h.xb.lt (fun e => by have := Option.some.inj e; omega)), h.yb.block (hg.block _ h.yb.lt (fun e => by have := Option.some.inj e; omega)), h.bel.grown hg h.bel.size (fun k hk => by cases hk; exact Nat.le_refl _)⟩
theorem MeI.setD {w wr w' : World} {c d d' : Nat → Int} (h : MeI w wr c d) (hn : NumB w' (w.heap.size + 1) 14 d') (hg : wr.grownBy w' (some (w.heap.size + 1))) (he : d' = d := by rfl) : MeI w w' c d := by
  subst he
  exact ⟨h.cb.block (hg.block _ h.cb.lt (fun e => by have := Option.some.inj e; omega)), hn, h.ub.block (hg.block _ h.ub.lt (fun e => by have := Option.some.inj e; omega)), h.vb.block (hg.block _ h.vb.lt (fun e => by have := Option.some.inj e; omega)), h.xb.block (hg.block _ h.xb.lt (fun e => by have := Option.some.inj e; omega)), h.yb.block (hg.block _ h.yb.lt (fun e => by have := Option.some.inj e; omega)), h.bel.grown hg h.bel.size (fun k hk => by cases hk; omega)⟩
/-- .. and on the way: the rows are those of c0 and d0. -/
structure MeJ (w wr : World) (c d c0 d0 : Nat → Int) : Prop where
  cb : NumB wr w.heap.size 14 c
  db : NumB wr (w.heap.size + 1) 14 d
  ub : NumB wr (w.heap.size + 1 + 1) 7 c0
  vb : NumB wr (w.heap.size + 1 + 1 + 1) 7 (fun i => c0 (7 + i))
  xb : NumB wr (w.heap.size + 1 + 1 + 1 + 1) 7 d0
  yb : NumB wr (w.heap.size + 1 + 1 + 1 + 1 + 1) 7 (fun i => d0 (7 + i))
  bel : Below w.heap.size w wr
theorem MeJ.ofC {w wr w' : World} {c d c' : Nat → Int} (h : MeI w wr c d) (hn : NumB w' w.heap.size 14 c') (hg : wr.grownBy w' (some w.heap.size)) : MeJ w w' c' d c d :=
  ⟨hn, h.db.block (hg.block _ h.db.lt (fun e => by have := Option.some.inj e; omega)), h.ub.block (hg.block _ h.ub.lt (fun e => by have := Option.some.inj e; omega)), h.vb.block (hg.block _ h.vb.lt (fun e => by have := Option.some.inj e; omega)), h.xb.block (hg.block _ h.xb.lt (fun e => by have := Option.some.inj e; omega)), h.yb.block (hg.block _ h.yb.lt (fun e => by have := Option.some.inj e; omega)), h.bel.grown hg h.bel.size (fun k hk => by cases hk; exact Nat.le_refl _)⟩
theorem MeJ.ofD {w wr w' : World} {c d d' : Nat → Int} (h : MeI w wr c d) (hn : NumB w' (w.heap.size + 1) 14 d') (hg : wr.grownBy w' (some (w.heap.size + 1))) : MeJ w w' c d' c d :=
  ⟨h.cb.block (hg.block _ h.cb.lt (fun e => by have := Option.some.inj e; omega)), hn, h.ub.block (hg.block _ h.ub.lt (fun e => by have := Option.some.inj e; omega)), h.vb.block (hg.block _ h.vb.lt (fun e => by have := Option.some.inj e; omega)), h.xb.block (hg.block _ h.xb.lt (fun e => by have := Option.some.inj e; omega)), h.yb.block (hg.block _ h.yb.lt (fun e => by have := Option.some.inj e; omega)), h.bel.grown hg h.bel.size (fun k hk => by cases hk; omega)⟩
section
variable {w wr : World} {c d c0 d0 f : Nat → Int} {q : Nat} {v : Value}
theorem MeJ.endV (h : MeJ w wr c d c0 d) (hn : NumB (wr.setCell ⟨w.heap.size + 1 + 1 + 1, q, none⟩ v) (w.heap.size + 1 + 1 + 1) 7 f) (hu : ∀ i, i < 7 → c0 i = c i) (hv : ∀ i, i < 7 → f i = c (7 + i)) : MeI w (wr.setCell ⟨w.heap.size + 1 + 1 + 1, q, none⟩ v) c d :=
  ⟨h.cb.other (by simp only; omega) _, h.db.other (by simp only; omega) _, (h.ub.same hu).other (by simp only; omega) _, hn.same hv, h.xb.other (by simp only; omega) _, h.yb.other (by simp only; omega) _, h.bel.setCell (by simp only; omega) _⟩
theorem MeJ.endU (h : MeJ w wr c d c0 d) (hn : NumB (wr.setCell ⟨w.heap.size + 1 + 1, q, none⟩ v) (w.heap.size + 1 + 1) 7 f) (hu : ∀ i, i < 7 → f i = c i) (hv : ∀ i, i < 7 → c0 (7 + i) = c (7 + i)) : MeI w (wr.setCell ⟨w.heap.size + 1 + 1, q, none⟩ v) c d :=
  ⟨h.cb.other (by simp only; omega) _, h.db.other (by simp only; omega) _, hn.same hu, (h.vb.same hv).other (by simp only; omega) _, h.xb.other (by simp only; omega) _, h.yb.other (by simp only; omega) _, h.bel.setCell (by simp only; omega) _⟩
theorem MeJ.endY (h : MeJ w wr c d c d0) (hn : NumB (wr.setCell ⟨w.heap.size + 1 + 1 + 1 + 1 + 1, q, none⟩ v) (w.heap.size + 1 + 1 + 1 + 1 + 1) 7 f) (hu : ∀ i, i < 7 → d0 i = d i) (hv : ∀ i, i < 7 → f i = d (7 + i)) : MeI w (wr.setCell ⟨w.heap.size + 1 + 1 + 1 + 1 + 1, q, none⟩ v) c d :=
  ⟨h.cb.other (by simp only; omega) _, h.db.other (by simp only; omega) _, h.ub.other (by simp only; omega) _, h.vb.other (by simp only; omega) _, (h.xb.same hu).other (by simp only; omega) _, hn.same hv, h.bel.setCell (by simp only; omega) _⟩
theorem MeJ.endX (h : MeJ w wr c d c d0) (hn : NumB (wr.setCell ⟨w.heap.size + 1 + 1 + 1 + 1, q, none⟩ v) (w.heap.size + 1 + 1 + 1 + 1) 7 f) (hu : ∀ i, i < 7 → f i = d i) (hv : ∀ i, i < 7 → d0 (7 + i) = d (7 + i)) : MeI w (wr.setCell ⟨w.heap.size + 1 + 1 + 1 + 1, q, none⟩ v) c d :=
  ⟨h.cb.other (by simp only; omega) _, h.db.other (by simp only; omega) _, h.ub.other (by simp only; omega) _, h.vb.other (by simp only; omega) _, hn.same hu, (h.yb.same hv).other (by simp only; omega) _, h.bel.setCell (by simp only; omega) _⟩
end
theorem MeI.block {w wr w' : World} {c d : Nat → Int} {jb : Nat} (h : MeI w wr c d) (hg : wr.grownBy w' (some jb)) (hj : w.heap.size + 1 + 1 + 1 + 1 + 1 < jb) : MeI w w' c d :=
  ⟨h.cb.block (hg.block _ h.cb.lt (fun e => by have := Option.some.inj e; omega)), h.db.block (hg.block _ h.db.lt (fun e => by have := Option.some.inj e; omega)), h.ub.block (hg.block _ h.ub.lt (fun e => by have := Option.some.inj e; omega)), h.vb.block (hg.block _ h.vb.lt (fun e => by have := Option.some.inj e; omega)), h.xb.block (hg.block _ h.xb.lt (fun e => by have := Option.some.inj e; omega)), h.yb.block (hg.block _ h.yb.lt (fun e => by have := Option.some.inj e; omega)), h.bel.grown hg h.bel.size (fun k hk => by cases hk; omega)⟩
/-- .. in the second loop: the first k places of two rows are joined. -/
structure MeK (w wr : World) (c d : Nat → Int) (k : Nat) : Prop where
  cb : NumB wr w.heap.size 14 c
  db : NumB wr (w.heap.size + 1) 14 d
  ub : NumB wr (w.heap.size + 1 + 1) 7 (fun i => if i < k then joinC c d i else c i)
  vb : NumB wr (w.heap.size + 1 + 1 + 1) 7 (fun i => if i < k then joinC c d (7 + i) else c (7 + i))
  xb : NumB wr (w.heap.size + 1 + 1 + 1 + 1) 7 d
  yb : NumB wr (w.heap.size + 1 + 1 + 1 + 1 + 1) 7 (fun i => d (7 + i))
  bel : Below w.heap.size w wr
theorem MeK.start {w wr : World} {c d : Nat → Int} (h : MeI w wr c d) : MeK w wr c d 0 := ⟨h.cb, h.db, h.ub.same (fun i _ => by simp), h.vb.same (fun i _ => by simp), h.xb, h.yb, h.bel⟩
theorem MeK.drew {w wr : World} {c d : Nat → Int} {k : Nat} (h : MeK w wr c d k) : MeK w wr.drew c d k := ⟨h.cb.drew, h.db.drew, h.ub.drew, h.vb.drew, h.xb.drew, h.yb.drew, h.bel.drew⟩
theorem joined_step (f g : Nat → Int) (k i : Nat) : setN (fun i => if i < k then f i else g i) k (f k) i = if i < k + 1 then f i else g i := by
  unfold setN
  by_cases e : i = k
  · subst e; rw [if_pos rfl, if_pos (by omega)]
  · rw [if_neg e]
    simp only
    by_cases h : i < k
    · rw [if_pos h, if_pos (by omega)]
    · rw [if_neg h, if_neg (by omega)]
theorem MeK.step {w wr : World} {c d : Nat → Int} {k : Nat} (h : MeK w wr c d k) : MeK w ((wr.setCell ⟨w.heap.size + 1 + 1, k, none⟩ (.int .i64 (joinC c d k))).setCell ⟨w.heap.size + 1 + 1 + 1, k, none⟩ (.int .i64 (joinC c d (7 + k)))) c d (k + 1) :=
  ⟨(h.cb.other (by simp only; omega) _).other (by simp only; omega) _, (h.db.other (by simp only; omega) _).other (by simp only; omega) _,
    ((h.ub.put k (joinC c d k)).same fun i _ => joined_step (joinC c d) c k i).other (by simp only; omega) _,
    ((h.vb.other (by simp only; omega) _).put k (joinC c d (7 + k))).same fun i _ => joined_step (fun i => joinC c d (7 + i)) (fun i => c (7 + i)) k i,
    (h.xb.other (by simp only; omega) _).other (by simp only; omega) _, (h.yb.other (by simp only; omega) _).other (by simp only; omega) _, (h.bel.setCell (by simp only; omega) _).setCell (by simp only; omega) _⟩
theorem hi25 (c : Nat → Int) : (Tryd.prog.info? 25).map (·.size) = some (nL 14 c).length := by rw [nL_len]; exact size33
/-- What goes on behind the first loop is told apart. -/
def badP (p n : Int) : Bool := decide (p < 0 ∨ p ≥ 7 ∨ n < -1000000 ∨ n > 1000000)
set_option maxRecDepth 100000 in
set_option maxHeartbeats 8000000 in
theorem mcounts_walk (G : World → Prop) (hG : ∀ w w', G w → Below w.heap.size w w' → G w')
    (hBare : ∀ w, G w → Calls Tryd.prog 6 #[.iface 31 (.int .i64 2), .int .i64 2] w fun e w' => e = .returned (.bool true) ∧ Below w.heap.size w w')
    (lp la lo : List Int) (a b c : Option Addr) (ca cb cc : Nat) (w : World) (hg : G w) (ha : IntsQ w a lp) (hb : IntsQ w b la) (hc : IntsQ w c lo) :
    Calls Tryd.prog 3 #[.slice a lp.length ca, .slice b la.length cb, .slice c lo.length cc] w fun e w' => e = .returned (.bool true) ∧ Below w.heap.size w w' := by
  have HA := hideIt ha
  have HB := hideIt hb
  have HC := hideIt hc
  have HG := hideIt hg
  have HGs := hideIt hG
  have HBa := hideIt hBare
  clear ha hb hc hg hG hBare
  by_cases h1 : (lp.length : Int) > 40
  · go_enter Tryd.func3, Tryd.ntmps3
    go_wp2
    go_ret
    exact ⟨rfl, Below.refl _ _⟩
  by_cases h2 : (la.length : Int) < lp.length
  · go_enter Tryd.func3, Tryd.ntmps3
    go_wp2
    go_ret
    exact ⟨rfl, Below.refl _ _⟩
  by_cases h3 : (lo.length : Int) < lp.length
  · go_enter Tryd.func3, Tryd.ntmps3
    go_wp2
    go_ret
    exact ⟨rfl, Below.refl _ _⟩
  go_enter Tryd.func3, Tryd.ntmps3
  have HM0 := hideIt (meI_new w)
  unfold o14 o7 at HM0
  go_upto_region 5 with fail
  rw [zero33, zero7]
  generalize (((((w.alloc _).alloc _).alloc _).alloc _).alloc _).alloc _ = W at HM0 ⊢
  go_wp2
  go_loopw [13] (fun v wr => ∃ (k : Nat) (c d : Nat → Int), k ≤ lp.length ∧ v = .int .i64 k ∧ MeI w wr c d) (fun v _ => lp.length - (intOf v).toNat)
  case atStart => exact ⟨0, _, _, Nat.zero_le _, rfl, HM0.out⟩
  case round =>
    clear HM0
    obtain ⟨k, cc', dd', hk, rfl, hm⟩ := hrel
    have HM := hideIt hm
    clear hm
    by_cases hkn : k < lp.length
    · have hkn' : (k : Int) < lp.length := by omega
      have hka : (k : Int) < la.length := by omega
      have hko : (k : Int) < lo.length := by omega
      have HLt : Hid (∀ g f, c = some (⟨g, f, none⟩ : Addr) → g < w.heap.size) := fun g f e => by
        obtain ⟨g', f', e', h', _⟩ := HC.out.at (i := k) (by omega)
        rw [e] at e'
        injection e' with e'
        injection e' with e1 _
        rw [e1]; exact h'
      obtain ⟨g0, f0, rfl, hg0, c0⟩ := (HA.out.below HM.out.bel).at hkn
      obtain ⟨g1, f1, rfl, hg1, c1⟩ := (HB.out.below HM.out.bel).at (i := k) (by omega)
      obtain ⟨g2, f2, rfl, hg2, c2⟩ := (HC.out.below HM.out.bel).at (i := k) (by omega)
      generalize lp[k] = p at c0
      generalize la[k] = n at c1
      generalize lo[k] = o at c2
      go_upto_region 8 with fail
      go_region
      have HM1 := hideIt HM.out.drew
      have HG1 : Hid (G wr.drew) := HGs.out _ _ HG.out HM1.out.bel
      have c2' : wr.drew.cell? ⟨g2, f2 + k, none⟩ = some (.int .i64 o) := c2
      clear c0 c1 c2 HM
      generalize wr.drew = W1 at HM1 HG1 c2' ⊢
      go_upto_region 9 with fail
      go_cut [16] from 52 to 65 (fun x wx => x = .bool (badP p n) ∧ wx = W1)
      case first =>
        have HBp : Hid (badP p n = decide (p < 0 ∨ p ≥ 7 ∨ n < -1000000 ∨ n > 1000000)) := rfl
        by_cases b0 : p < 0
        · go_wp2
          go_meet
          exact ⟨by rw [HBp.out, decide_eq_true (.inl b0)], rfl⟩
        by_cases b1 : p ≥ 7
        · have b1' : 7 ≤ p := b1
          go_wp2
          go_meet
          exact ⟨by rw [HBp.out, decide_eq_true (.inr (.inl b1))], rfl⟩
        by_cases b2 : n < -1000000
        · go_wp2
          go_meet
          exact ⟨by rw [HBp.out, decide_eq_true (.inr (.inr (.inl b2)))], rfl⟩
        by_cases b3 : n > 1000000
        · have b3' : 1000000 < n := b3
          go_wp2
          go_meet
          exact ⟨by rw [HBp.out, decide_eq_true (.inr (.inr (.inr b3)))], rfl⟩
        · go_wp2
          go_meet
          exact ⟨by rw [HBp.out, decide_eq_false (by omega)], rfl⟩
      case rest =>
        obtain ⟨rfl, hwx⟩ := hcut
        rename World => wx
        subst wx
        have qn : ∀ W : World, (binOp .neq 27 .nilIface .nilIface).run Tryd.prog W = .ok (.bool false) W := fun W => by rfl
        by_cases hev : o.tmod 2 = 0
        · have hev' : (o.tmod 2 == 0) = true := by simp [hev]
          cases hbad : badP p n with
          | true =>
            have HBd : Hid (¬ ((0 ≤ p ∧ p < 7) ∧ (-1000000 ≤ n ∧ n ≤ 1000000))) := by
              unfold badP at hbad
              rw [decide_eq_true_eq] at hbad
              intro h
              omega
            go_wp2_with (first | (refine wpList_loadN rfl 25 (.tmp 7) rfl w.heap.size 14 cc' rfl HM1.out.cb _ Tryd.underlying25 rfl size33 ?_))
            refine (add_bad cc' p n HBd.out W1).mono fun e w2 ⟨he, hb2⟩ => ?_
            subst he
            unfold nA
            have HM2 := hideIt (HM1.out.below hb2)
            clear hb2
            go_upto_region 14 with (first | (refine wpList_storeN rfl 25 (.tmp 7) (.tmp 77) rfl w.heap.size 14 _ cc' rfl rfl HM2.out.cb size33 ?_; intro w3 hn3 hg3; go_frame))
            have HM3 : Hid (MeI w w3 cc' dd') := HM2.out.setC hn3 hg3
            have HG3 : Hid (G w3) := HGs.out _ _ HG.out HM3.out.bel
            clear hn3 hg3 HM2 HM1 HG1
            go_wp2_with fail
            refine (HBa.out w3 HG3.out).mono fun e w4 ⟨he, hb4⟩ => ?_
            subst he
            have HM4 := hideIt (HM3.out.below hb4)
            clear hb4
            go_wp2
            go_roundw
            case rel => exact ⟨k + 1, cc', dd', by omega, by go_num, HM4.out⟩
            case measure => simp [intOf]; omega
          | false =>
            have hgd : (0 ≤ p ∧ p < 7) ∧ (-1000000 ≤ n ∧ n ≤ 1000000) := by
              unfold badP at hbad
              rw [decide_eq_false_iff_not] at hbad
              omega
            obtain ⟨⟨hp0, hp7⟩, hn⟩ := hgd
            obtain ⟨q, rfl⟩ := Int.eq_ofNat_of_zero_le hp0
            have hq7 : q < 7 := by omega
            have hq7' : (q : Int) < 7 := by omega
            clear hp0 hp7
            go_wp2_with (first | (refine wpList_loadN rfl 25 (.tmp 7) rfl w.heap.size 14 cc' rfl HM1.out.cb _ Tryd.underlying25 rfl size33 ?_))
            refine (add_any cc' q n hq7 hn W1).mono fun e w2 ⟨he, hb2⟩ => ?_
            subst he
            unfold nA
            have HM2 := hideIt (HM1.out.below hb2)
            have c3 := (hb2.cell (p := ⟨g2, f2 + k, none⟩) (World.block_lt_of_cell? W1 _ c2')).trans c2'
            have hgl : g2 < w.heap.size := HLt.out g2 f2 rfl
            clear hb2 c2'
            go_upto_region 14 with (first | (refine wpList_storeN rfl 25 (.tmp 7) (.tmp 77) rfl w.heap.size 14 _ (addC cc' q n) rfl rfl HM2.out.cb size33 ?_; intro w3 hn3 hg3; go_frame))
            have c4 := (World.cell?_of_block (a := ⟨g2, f2 + k, none⟩) (hg3.block g2 (World.block_lt_of_cell? w2 _ c3) (fun e => by have := Option.some.inj e; omega))).trans c3
            have HW3 : Hid (MeJ w w3 (addC cc' q n) dd' cc' dd') := MeJ.ofC HM2.out hn3 hg3
            clear hn3 hg3 HM2 HM1 HG1 c3
            by_cases hneg : n < 0
            · have cz := HW3.out.vb.at (i := q) (by omega)
              have fz := HW3.out.vb.fz q
              have HEnd : Hid (MeI w (w3.setCell ⟨w.heap.size + 1 + 1 + 1, q, none⟩ (.int .i64 (wrap64 (cc' (7 + q) - n)))) (addC cc' q n) dd') := HW3.out.endV (HW3.out.vb.put q _) (fun i hi => (addC_up cc' q n hneg i hi).symm) (fun i _ => addC_down cc' q n hneg i)
              go_wp2
              go_roundw
              case rel => exact ⟨k + 1, _, _, by omega, by go_num, HEnd.out⟩
              case measure => simp [intOf]; omega
            · have cz := HW3.out.ub.at (i := q) (by omega)
              have fz := HW3.out.ub.fz q
              have HEnd : Hid (MeI w (w3.setCell ⟨w.heap.size + 1 + 1, q, none⟩ (.int .i64 (wrap64 (cc' q + n)))) (addC cc' q n) dd') := HW3.out.endU (HW3.out.ub.put q _) (fun i _ => addC_up' cc' q n hneg i) (fun i _ => (addC_down' cc' q hq7 n hneg i).symm)
              go_wp2
              go_roundw
              case rel => exact ⟨k + 1, _, _, by omega, by go_num, HEnd.out⟩
              case measure => simp [intOf]; omega
        · have hev' : (o.tmod 2 == 0) = false := by simp [hev]
          cases hbad : badP p n with
          | true =>
            have HBd : Hid (¬ ((0 ≤ p ∧ p < 7) ∧ (-1000000 ≤ n ∧ n ≤ 1000000))) := by
              unfold badP at hbad
              rw [decide_eq_true_eq] at hbad
              intro h
              omega
            go_wp2_with (first | (refine wpList_loadN rfl 25 (.tmp 8) rfl (w.heap.size + 1) 14 dd' rfl HM1.out.db _ Tryd.underlying25 rfl size33 ?_))
            refine (add_bad dd' p n HBd.out W1).mono fun e w2 ⟨he, hb2⟩ => ?_
            subst he
            unfold nA
            have HM2 := hideIt (HM1.out.below hb2)
            clear hb2
            go_upto_region 14 with (first | (refine wpList_storeN rfl 25 (.tmp 8) (.tmp 84) rfl (w.heap.size + 1) 14 _ dd' rfl rfl HM2.out.db size33 ?_; intro w3 hn3 hg3; go_frame))
            have HM3 : Hid (MeI w w3 cc' dd') := HM2.out.setD hn3 hg3
            have HG3 : Hid (G w3) := HGs.out _ _ HG.out HM3.out.bel
            clear hn3 hg3 HM2 HM1 HG1
            go_wp2_with fail
            refine (HBa.out w3 HG3.out).mono fun e w4 ⟨he, hb4⟩ => ?_
            subst he
            have HM4 := hideIt (HM3.out.below hb4)
            clear hb4
            go_wp2
            go_roundw
            case rel => exact ⟨k + 1, cc', dd', by omega, by go_num, HM4.out⟩
            case measure => simp [intOf]; omega
          | false =>
            have hgd : (0 ≤ p ∧ p < 7) ∧ (-1000000 ≤ n ∧ n ≤ 1000000) := by
              unfold badP at hbad
              rw [decide_eq_false_iff_not] at hbad
              omega
            obtain ⟨⟨hp0, hp7⟩, hn⟩ := hgd
            obtain ⟨q, rfl⟩ := Int.eq_ofNat_of_zero_le hp0
            have hq7 : q < 7 := by omega
            have hq7' : (q : Int) < 7 := by omega
            clear hp0 hp7
            go_wp2_with (first | (refine wpList_loadN rfl 25 (.tmp 8) rfl (w.heap.size + 1) 14 dd' rfl HM1.out.db _ Tryd.underlying25 rfl size33 ?_))
            refine (add_any dd' q n hq7 hn W1).mono fun e w2 ⟨he, hb2⟩ => ?_
            subst he
            unfold nA
            have HM2 := hideIt (HM1.out.below hb2)
            have c3 := (hb2.cell (p := ⟨g2, f2 + k, none⟩) (World.block_lt_of_cell? W1 _ c2')).trans c2'
            have hgl : g2 < w.heap.size := HLt.out g2 f2 rfl
            clear hb2 c2'
            go_upto_region 14 with (first | (refine wpList_storeN rfl 25 (.tmp 8) (.tmp 84) rfl (w.heap.size + 1) 14 _ (addC dd' q n) rfl rfl HM2.out.db size33 ?_; intro w3 hn3 hg3; go_frame))
            have c4 := (World.cell?_of_block (a := ⟨g2, f2 + k, none⟩) (hg3.block g2 (World.block_lt_of_cell? w2 _ c3) (fun e => by have := Option.some.inj e; omega))).trans c3
            have HW3 : Hid (MeJ w w3 cc' (addC dd' q n) cc' dd') := MeJ.ofD HM2.out hn3 hg3
            clear hn3 hg3 HM2 HM1 HG1 c3
            by_cases hneg : n < 0
            · have cz := HW3.out.yb.at (i := q) (by omega)
              have fz := HW3.out.yb.fz q
              have HEnd : Hid (MeI w (w3.setCell ⟨w.heap.size + 1 + 1 + 1 + 1 + 1, q, none⟩ (.int .i64 (wrap64 (dd' (7 + q) - n)))) cc' (addC dd' q n)) := HW3.out.endY (HW3.out.yb.put q _) (fun i hi => (addC_up dd' q n hneg i hi).symm) (fun i _ => addC_down dd' q n hneg i)
              go_wp2
              go_roundw
              case rel => exact ⟨k + 1, _, _, by omega, by go_num, HEnd.out⟩
              case measure => simp [intOf]; omega
            · have cz := HW3.out.xb.at (i := q) (by omega)
              have fz := HW3.out.xb.fz q
              have HEnd : Hid (MeI w (w3.setCell ⟨w.heap.size + 1 + 1 + 1 + 1, q, none⟩ (.int .i64 (wrap64 (dd' q + n)))) cc' (addC dd' q n)) := HW3.out.endX (HW3.out.xb.put q _) (fun i _ => addC_up' dd' q n hneg i) (fun i _ => (addC_down' dd' q hq7 n hneg i).symm)
              go_wp2
              go_roundw
              case rel => exact ⟨k + 1, _, _, by omega, by go_num, HEnd.out⟩
              case measure => simp [intOf]; omega
    · have hkn' : ¬ (k : Int) < lp.length := by omega
      have HG1 : Hid (G wr) := HGs.out _ _ HG.out HM.out.bel
      have hq : ∀ (u : Nat → Int) (W : World), (Op.equalIn 10000 23 (.agg (nL 7 u).toArray) (.agg (nL 7 u).toArray)).run Tryd.prog W = .ok true W := fun u W => by
        have := eqArr 9998 7 u u W 23 Tryd.underlying23
        rw [eqN_iff.2 (fun _ _ => rfl)] at this
        exact this
      go_upto_region 26 with fail
      go_cut [158] from 137 to 157 (fun x wx => x = .bool false ∧ wx = wr)
      case first =>
        go_wp2_with (first
          | (refine wpList_loadR rfl 23 (.tmp 137) rfl w.heap.size 0 (nL 7 cc') rfl HM.out.cb.up _ Tryd.underlying23 rfl (hi7 _) ?_)
          | (refine wpList_loadR rfl 23 (.tmp 9) rfl (w.heap.size + 1 + 1) 0 (nL 7 cc') rfl HM.out.ub.range _ Tryd.underlying23 rfl (hi7 _) ?_)
          | (refine wpList_loadR rfl 23 (.tmp 142) rfl w.heap.size 7 (nL 7 fun i => cc' (7 + i)) rfl HM.out.cb.down _ Tryd.underlying23 rfl (hi7 _) ?_)
          | (refine wpList_loadR rfl 23 (.tmp 10) rfl (w.heap.size + 1 + 1 + 1) 0 (nL 7 fun i => cc' (7 + i)) rfl HM.out.vb.range _ Tryd.underlying23 rfl (hi7 _) ?_)
          | (refine wpList_loadR rfl 23 (.tmp 148) rfl (w.heap.size + 1) 0 (nL 7 dd') rfl HM.out.db.up _ Tryd.underlying23 rfl (hi7 _) ?_)
          | (refine wpList_loadR rfl 23 (.tmp 11) rfl (w.heap.size + 1 + 1 + 1 + 1) 0 (nL 7 dd') rfl HM.out.xb.range _ Tryd.underlying23 rfl (hi7 _) ?_)
          | (refine wpList_loadR rfl 23 (.tmp 154) rfl (w.heap.size + 1) 7 (nL 7 fun i => dd' (7 + i)) rfl HM.out.db.down _ Tryd.underlying23 rfl (hi7 _) ?_)
          | (refine wpList_loadR rfl 23 (.tmp 12) rfl (w.heap.size + 1 + 1 + 1 + 1 + 1) 0 (nL 7 fun i => dd' (7 + i)) rfl HM.out.yb.range _ Tryd.underlying23 rfl (hi7 _) ?_))
        go_meet
        exact ⟨rfl, rfl⟩
      case rest =>
        obtain ⟨rfl, hwx⟩ := hcut
        rename World => wx
        subst wx
        have hq7 := hq
        clear hq
        go_wp2_with (first
          | (refine wpList_loadN rfl 25 (.tmp 7) rfl w.heap.size 14 cc' rfl HM.out.cb _ Tryd.underlying25 rfl size33 ?_)
          | (refine wpList_loadN rfl 25 (.tmp 8) rfl (w.heap.size + 1) 14 dd' rfl HM.out.db _ Tryd.underlying25 rfl size33 ?_))
        refine (joinC_any cc' dd' wr).mono fun e w2 ⟨he, hb2⟩ => ?_
        subst he
        unfold nA
        have HM2 := hideIt (HM.out.below hb2)
        clear hb2 HM
        have HMa := hideIt (HM2.out.below (belA (Below.refl _ w2) (.cells (nL 14 fun _ => 0).toArray 25)))
        have HVn : Hid (NumB (w2.alloc (.cells (nL 14 fun _ => 0).toArray 25)) w2.heap.size 14 (fun _ => 0)) := numB_new w2 14 (fun _ => 0) 25
        go_upto_region 29 with (first | (rw [zero33]; refine wpList_storeN rfl 25 (.tmp 18) (.tmp 161) rfl w2.heap.size 14 _ (joinC cc' dd') rfl rfl HVn.out size33 ?_; intro w3 hn3 hg3; go_frame))
        have hjl : w.heap.size + 1 + 1 + 1 + 1 + 1 < w2.heap.size := HM2.out.yb.lt
        have HM3 : Hid (MeI w w3 cc' dd') := HMa.out.block hg3 hjl
        have HJ3 := hideIt hn3
        have h3l : w2.heap.size < w3.heap.size := hn3.lt
        clear hn3 hg3 HVn HMa HM2
        generalize w2.heap.size = jb at *
        go_wp2
        go_loopw [20, 19] (fun v x wz => ∃ i : Nat, i ≤ 7 ∧ v = .int .i64 i ∧ x = .int .i64 (valK (joinC cc' dd') i) ∧ MeK w wz cc' dd' i ∧ NumB wz jb 14 (joinC cc' dd')) (fun v _ _ => 7 - (intOf v).toNat)
        case atStart => exact ⟨0, by omega, rfl, rfl, MeK.start HM3.out, HJ3.out⟩
        case round =>
          clear HM3 HJ3
          obtain ⟨i, hi, rfl, rfl, hm, hj⟩ := hrel
          have HM := hideIt hm
          have HJ := hideIt hj
          clear hm hj
          by_cases hi7' : i < 7
          · have hi7i : (i : Int) < 7 := by omega
            have x1 := HM.out.ub.at (i := i) (by omega)
            have x2 := HM.out.vb.at (i := i) (by omega)
            have x3 := HM.out.xb.at (i := i) (by omega)
            have x4 := HM.out.yb.at (i := i) (by omega)
            have g1 := HM.out.ub.fz i
            have g2 := HM.out.vb.fz i
            rw [if_neg (Nat.lt_irrefl i)] at x1 x2
            have HNx := hideIt HM.out.step
            have HJx : Hid (NumB ((wr.setCell ⟨w.heap.size + 1 + 1, i, none⟩ (.int .i64 (joinC cc' dd' i))).setCell ⟨w.heap.size + 1 + 1 + 1, i, none⟩ (.int .i64 (joinC cc' dd' (7 + i)))) jb 14 (joinC cc' dd')) := (HJ.out.other (by simp only; omega) _).other (by simp only; omega) _
            go_upto_region 33 with fail
            go_region
            change Hid (MeK w ((wr.setCell ⟨w.heap.size + 1 + 1, i, none⟩ (.int .i64 (if cc' i < dd' i then dd' i else cc' i))).setCell ⟨w.heap.size + 1 + 1 + 1, i, none⟩ (.int .i64 (if cc' (7 + i) < dd' (7 + i) then dd' (7 + i) else cc' (7 + i)))) cc' dd' (i + 1)) at HNx
            change Hid (NumB ((wr.setCell ⟨w.heap.size + 1 + 1, i, none⟩ (.int .i64 (if cc' i < dd' i then dd' i else cc' i))).setCell ⟨w.heap.size + 1 + 1 + 1, i, none⟩ (.int .i64 (if cc' (7 + i) < dd' (7 + i) then dd' (7 + i) else cc' (7 + i)))) jb 14 (joinC cc' dd')) at HJx
            have HNd := hideIt HNx.out.drew
            have HJd := hideIt HJx.out.drew
            clear HNx HJx x1 x2 x3 x4 g1 g2 HM HJ
            generalize ((wr.setCell ⟨w.heap.size + 1 + 1, i, none⟩ (.int .i64 (if cc' i < dd' i then dd' i else cc' i))).setCell ⟨w.heap.size + 1 + 1 + 1, i, none⟩ (.int .i64 (if cc' (7 + i) < dd' (7 + i) then dd' (7 + i) else cc' (7 + i)))).drew = W5 at HNd HJd ⊢
            have x1 := HNd.out.ub.at (i := i) (by omega)
            have x2 := HNd.out.vb.at (i := i) (by omega)
            rw [if_pos (Nat.lt_succ_self i)] at x1 x2
            have HVs : Hid (valK (joinC cc' dd') (i + 1) = wrap64 (valK (joinC cc' dd') i + wrap64 (joinC cc' dd' i - joinC cc' dd' (7 + i)))) := rfl
            generalize (if cc' i < dd' i then dd' i else cc' i) = z1
            generalize (if cc' (7 + i) < dd' (7 + i) then dd' (7 + i) else cc' (7 + i)) = z2
            generalize valK (joinC cc' dd') i = vk at *
            generalize joinC cc' dd' i = j1 at x1 HVs
            generalize joinC cc' dd' (7 + i) = j2 at x2 HVs
            go_upto_region 34 with fail
            go_region
            have HNe := hideIt HNd.out.drew
            have HJe := hideIt HJd.out.drew
            generalize W5.drew = W6 at HNe HJe ⊢
            go_wp2
            go_roundw
            case rel => exact ⟨i + 1, by omega, by go_num, by rw [HVs.out], HNe.out, HJe.out⟩
            case measure => simp [intOf]; omega
          · have hi7i : ¬ (i : Int) < 7 := by omega
            obtain rfl : i = 7 := by omega
            go_upto_region 35 with fail
            obtain ⟨J, hJe⟩ : ∃ J, joinC cc' dd' = J := ⟨_, rfl⟩
            have HMu := hideIt (HM.out.ub.same (d := J) (fun i hi => by rw [← hJe]; exact if_pos hi))
            have HMv := hideIt (HM.out.vb.same (d := fun i => J (7 + i)) (fun i hi => by rw [← hJe]; exact if_pos hi))
            have HMc := hideIt HM.out.cb
            have HMd := hideIt HM.out.db
            have HMb := hideIt HM.out.bel
            rw [hJe] at HJ ⊢
            clear hJe HM
            have R1 : Hid (∀ Z, Below wr.heap.size wr Z → Z.rangeAt jb 0 (nL 7 J)) := fun Z hZ => (HJ.out.below hZ HJ.out.lt).up
            have R2 : Hid (∀ Z, Below wr.heap.size wr Z → Z.rangeAt (w.heap.size + 1 + 1) 0 (nL 7 J)) := fun Z hZ => (HMu.out.below hZ HMu.out.lt).range
            have R3 : Hid (∀ Z, Below wr.heap.size wr Z → Z.rangeAt jb 7 (nL 7 fun i => J (7 + i))) := fun Z hZ => (HJ.out.below hZ HJ.out.lt).down
            have R4 : Hid (∀ Z, Below wr.heap.size wr Z → Z.rangeAt (w.heap.size + 1 + 1 + 1) 0 (nL 7 fun i => J (7 + i))) := fun Z hZ => (HMv.out.below hZ HMv.out.lt).range
            have R5 : Hid (∀ Z, Below wr.heap.size wr Z → Z.rangeAt jb 0 (nL 14 J)) := fun Z hZ => (HJ.out.below hZ HJ.out.lt).range
            have R6 : Hid (∀ Z, Below wr.heap.size wr Z → Z.rangeAt w.heap.size 0 (nL 14 cc')) := fun Z hZ => (HMc.out.below hZ HMc.out.lt).range
            have R7 : Hid (∀ Z, Below wr.heap.size wr Z → Z.rangeAt (w.heap.size + 1) 0 (nL 14 dd')) := fun Z hZ => (HMd.out.below hZ HMd.out.lt).range
            obtain ⟨dq, hdq⟩ : ∃ dq, eqN 14 cc' dd' = dq := ⟨_, rfl⟩
            have hqc : ∀ W : World, (Op.equalIn 10000 25 (.agg (nL 14 cc').toArray) (.agg (nL 14 dd').toArray)).run Tryd.prog W = .ok dq W := fun W => by
              have := eqCount cc' dd' W
              rw [hdq] at this
              exact this
            have eqDD : ∀ W : World, (binOp .eql 4 (.bool dq) (.bool dq)).run Tryd.prog W = .ok (.bool true) W := fun W => by cases dq <;> rfl
            have HDq := hideIt hdq
            clear hdq
            have hqq := hq7
            obtain ⟨vk, hvk⟩ : ∃ vk, valK J 7 = vk := ⟨_, rfl⟩
            rw [hvk]
            have HVk := hideIt hvk
            clear hvk
            refine wp_region_held_drew (S := (fun Z => Below wr.heap.size wr Z)) (by kernel_rfl) (Below.refl _ _).drew (fun hHeld => ?_)
            refine wpAnyH_take (i := 0) (v := ?_) rfl (by kernel_rfl) (by kernel_rfl) (by kernel_rfl) (fun _ _ _ h => h) (Or.inl ⟨by rfl, ?_⟩) (by assumption) ?_
            rotate_left 1
            · intro wz _
              go_simp
              all_goals with_reducible rfl
            simp only [Act.put, List.setIfInBounds_toArray, List.set_cons_zero, List.set_cons_succ, List.getElem_toArray, List.getElem_cons_zero]
            refine wpAnyH_take (i := 1) (v := .agg (nL 7 J).toArray) rfl (by kernel_rfl) (by kernel_rfl) (by kernel_rfl) (fun _ _ _ h => h) (yieldsIf_load_mid (by rfl) 23 (.tmp 193) rfl (jb) 0 rfl (nL 7 J) _ R1.out Tryd.underlying23 rfl (hi7 _)) (by assumption) ?_
            simp only [Act.put, List.setIfInBounds_toArray, List.set_cons_zero, List.set_cons_succ, List.getElem_toArray, List.getElem_cons_zero, List.getElem_cons_succ]
            refine wpAnyH_take (i := 2) (v := .agg (nL 7 J).toArray) rfl (by kernel_rfl) (by kernel_rfl) (by kernel_rfl) (fun _ _ _ h => h) (yieldsIf_load_mid (by rfl) 23 (.tmp 9) rfl (w.heap.size + 1 + 1) 0 rfl (nL 7 J) _ R2.out Tryd.underlying23 rfl (hi7 _)) (by assumption) ?_
            simp only [Act.put, List.setIfInBounds_toArray, List.set_cons_zero, List.set_cons_succ, List.getElem_toArray, List.getElem_cons_zero, List.getElem_cons_succ]
            refine wpAnyH_take (i := 3) (v := .bool true) rfl (by kernel_rfl) (by kernel_rfl) (by kernel_rfl) (fun _ _ _ h => h) (Or.inl ⟨by rfl, fun wz _ => ?_⟩) (by assumption) ?_
            · have := hqq J wz
              go_simp
            simp only [Act.put, List.setIfInBounds_toArray, List.set_cons_zero, List.set_cons_succ, List.getElem_toArray, List.getElem_cons_zero, List.getElem_cons_succ]
            refine wpAnyH_take (i := 4) (v := ?_) rfl (by kernel_rfl) (by kernel_rfl) (by kernel_rfl) (fun _ _ _ h => h) (Or.inl ⟨by rfl, ?_⟩) (by assumption) ?_
            rotate_left 1
            · intro wz _
              go_simp
              all_goals with_reducible rfl
            simp only [Act.put, List.setIfInBounds_toArray, List.set_cons_zero, List.set_cons_succ, List.getElem_toArray, List.getElem_cons_zero, List.getElem_cons_succ]
            refine wpAnyH_take (i := 5) (v := ?_) rfl (by kernel_rfl) (by kernel_rfl) (by kernel_rfl) (fun _ _ _ h => h) (Or.inl ⟨by rfl, ?_⟩) (by assumption) ?_
            rotate_left 1
            · intro wz _
              go_simp
              all_goals with_reducible rfl
            simp only [Act.put, List.setIfInBounds_toArray, List.set_cons_zero, List.set_cons_succ, List.getElem_toArray, List.getElem_cons_zero, List.getElem_cons_succ]
            refine wpAnyH_take (i := 6) (v := .agg (nL 7 fun i => J (7 + i)).toArray) rfl (by kernel_rfl) (by kernel_rfl) (by kernel_rfl) (fun _ _ _ h => h) (yieldsIf_load_mid (by rfl) 23 (.tmp 198) rfl (jb) 7 rfl (nL 7 fun i => J (7 + i)) _ R3.out Tryd.underlying23 rfl (hi7 _)) (by assumption) ?_
            simp only [Act.put, List.setIfInBounds_toArray, List.set_cons_zero, List.set_cons_succ, List.getElem_toArray, List.getElem_cons_zero, List.getElem_cons_succ]
            refine wpAnyH_take (i := 7) (v := .agg (nL 7 fun i => J (7 + i)).toArray) rfl (by kernel_rfl) (by kernel_rfl) (by kernel_rfl) (fun _ _ _ h => h) (yieldsIf_load_mid (by rfl) 23 (.tmp 10) rfl (w.heap.size + 1 + 1 + 1) 0 rfl (nL 7 fun i => J (7 + i)) _ R4.out Tryd.underlying23 rfl (hi7 _)) (by assumption) ?_
            simp only [Act.put, List.setIfInBounds_toArray, List.set_cons_zero, List.set_cons_succ, List.getElem_toArray, List.getElem_cons_zero, List.getElem_cons_succ]
            refine wpAnyH_take (i := 8) (v := .bool true) rfl (by kernel_rfl) (by kernel_rfl) (by kernel_rfl) (fun _ _ _ h => h) (Or.inl ⟨by rfl, fun wz _ => ?_⟩) (by assumption) ?_
            · have := hqq (fun i => J (7 + i)) wz
              go_simp
            simp only [Act.put, List.setIfInBounds_toArray, List.set_cons_zero, List.set_cons_succ, List.getElem_toArray, List.getElem_cons_zero, List.getElem_cons_succ]
            refine wpAnyH_take (i := 9) (v := ?_) rfl (by kernel_rfl) (by kernel_rfl) (by kernel_rfl) (fun _ _ _ h => h) (Or.inl ⟨by rfl, ?_⟩) (by assumption) ?_
            rotate_left 1
            · intro wz _
              go_simp
              all_goals with_reducible rfl
            simp only [Act.put, List.setIfInBounds_toArray, List.set_cons_zero, List.set_cons_succ, List.getElem_toArray, List.getElem_cons_zero, List.getElem_cons_succ]
            refine wpAnyH_take (i := 10) (v := ?_) rfl (by kernel_rfl) (by kernel_rfl) (by kernel_rfl) (fun _ _ _ h => h) (Or.inl ⟨by rfl, ?_⟩) (by assumption) ?_
            rotate_left 1
            · intro wz _
              go_simp
              all_goals with_reducible rfl
            simp only [Act.put, List.setIfInBounds_toArray, List.set_cons_zero, List.set_cons_succ, List.getElem_toArray, List.getElem_cons_zero, List.getElem_cons_succ]
            refine wpAnyH_take (i := 11) (v := .agg (nL 14 J).toArray) rfl (by kernel_rfl) (by kernel_rfl) (by kernel_rfl) (fun _ _ _ h => h) (yieldsIf_load_mid (by rfl) 25 (.tmp 18) rfl (jb) 0 rfl (nL 14 J) _ R5.out Tryd.underlying25 rfl (hi25 _)) (by assumption) ?_
            simp only [Act.put, List.setIfInBounds_toArray, List.set_cons_zero, List.set_cons_succ, List.getElem_toArray, List.getElem_cons_zero, List.getElem_cons_succ]
            refine wpAnyH_take (i := 13) (v := ?_) rfl (by kernel_rfl) (by kernel_rfl) (by kernel_rfl) (fun _ _ _ h => h) (Or.inl ⟨by rfl, ?_⟩) (by assumption) ?_
            rotate_left 1
            · intro wz _
              go_simp
              all_goals with_reducible rfl
            simp only [Act.put, List.setIfInBounds_toArray, List.set_cons_zero, List.set_cons_succ, List.getElem_toArray, List.getElem_cons_zero, List.getElem_cons_succ]
            generalize wr.drew = Y at hHeld ⊢
            refine wpAnyH_ready (rs := [12]) (by kernel_rfl) (by simp) (AllReadyH.cons rfl (fun K hK => ?_) AllReadyH.nil)
            go_simp
            refine (value_any J Y).mono fun e Y2 ⟨he, hb2⟩ => ?_
            subst he
            rw [HVk.out]
            refine hK.out _ _ (belJ hHeld hb2) (fun hHeld => ?_)
            clear hK K
            refine wpAnyH_take (i := 14) (v := ?_) rfl (by kernel_rfl) (by kernel_rfl) (by kernel_rfl) (fun _ _ _ h => h) (Or.inl ⟨by rfl, ?_⟩) (by assumption) ?_
            rotate_left 1
            · intro wz _
              go_simp
              all_goals with_reducible rfl
            simp only [Act.put, List.setIfInBounds_toArray, List.set_cons_zero, List.set_cons_succ, List.getElem_toArray, List.getElem_cons_zero, List.getElem_cons_succ]
            refine wpAnyH_take (i := 15) (v := ?_) rfl (by kernel_rfl) (by kernel_rfl) (by kernel_rfl) (fun _ _ _ h => h) (Or.inl ⟨by rfl, ?_⟩) (by assumption) ?_
            rotate_left 1
            · intro wz _
              go_simp
              all_goals with_reducible rfl
            simp only [Act.put, List.setIfInBounds_toArray, List.set_cons_zero, List.set_cons_succ, List.getElem_toArray, List.getElem_cons_zero, List.getElem_cons_succ]
            refine wpAnyH_take (i := 16) (v := ?_) rfl (by kernel_rfl) (by kernel_rfl) (by kernel_rfl) (fun _ _ _ h => h) (Or.inl ⟨by rfl, ?_⟩) (by assumption) ?_
            rotate_left 1
            · intro wz _
              go_simp
              all_goals with_reducible rfl
            simp only [Act.put, List.setIfInBounds_toArray, List.set_cons_zero, List.set_cons_succ, List.getElem_toArray, List.getElem_cons_zero, List.getElem_cons_succ]
            refine wpAnyH_take (i := 17) (v := .agg (nL 14 cc').toArray) rfl (by kernel_rfl) (by kernel_rfl) (by kernel_rfl) (fun _ _ _ h => h) (yieldsIf_load_mid (by rfl) 25 (.tmp 7) rfl (w.heap.size) 0 rfl (nL 14 cc') _ R6.out Tryd.underlying25 rfl (hi25 _)) (by assumption) ?_
            simp only [Act.put, List.setIfInBounds_toArray, List.set_cons_zero, List.set_cons_succ, List.getElem_toArray, List.getElem_cons_zero, List.getElem_cons_succ]
            refine wpAnyH_take (i := 18) (v := .agg (nL 14 dd').toArray) rfl (by kernel_rfl) (by kernel_rfl) (by kernel_rfl) (fun _ _ _ h => h) (yieldsIf_load_mid (by rfl) 25 (.tmp 8) rfl (w.heap.size + 1) 0 rfl (nL 14 dd') _ R7.out Tryd.underlying25 rfl (hi25 _)) (by assumption) ?_
            simp only [Act.put, List.setIfInBounds_toArray, List.set_cons_zero, List.set_cons_succ, List.getElem_toArray, List.getElem_cons_zero, List.getElem_cons_succ]
            refine wpAnyH_take (i := 20) (v := .agg (nL 14 cc').toArray) rfl (by kernel_rfl) (by kernel_rfl) (by kernel_rfl) (fun _ _ _ h => h) (yieldsIf_load_mid (by rfl) 25 (.tmp 7) rfl (w.heap.size) 0 rfl (nL 14 cc') _ R6.out Tryd.underlying25 rfl (hi25 _)) (by assumption) ?_
            simp only [Act.put, List.setIfInBounds_toArray, List.set_cons_zero, List.set_cons_succ, List.getElem_toArray, List.getElem_cons_zero, List.getElem_cons_succ]
            refine wpAnyH_take (i := 21) (v := .agg (nL 14 dd').toArray) rfl (by kernel_rfl) (by kernel_rfl) (by kernel_rfl) (fun _ _ _ h => h) (yieldsIf_load_mid (by rfl) 25 (.tmp 8) rfl (w.heap.size + 1) 0 rfl (nL 14 dd') _ R7.out Tryd.underlying25 rfl (hi25 _)) (by assumption) ?_
            simp only [Act.put, List.setIfInBounds_toArray, List.set_cons_zero, List.set_cons_succ, List.getElem_toArray, List.getElem_cons_zero, List.getElem_cons_succ]
            refine wpAnyH_take (i := 22) (v := .bool dq) rfl (by kernel_rfl) (by kernel_rfl) (by kernel_rfl) (fun _ _ _ h => h) (Or.inl ⟨by rfl, fun wz _ => ?_⟩) (by assumption) ?_
            · have := hqc wz
              go_simp
            simp only [Act.put, List.setIfInBounds_toArray, List.set_cons_zero, List.set_cons_succ, List.getElem_toArray, List.getElem_cons_zero, List.getElem_cons_succ]
            refine wpAnyH_ready (rs := [19]) (by kernel_rfl) (by simp) (AllReadyH.cons rfl (fun K hK => ?_) AllReadyH.nil)
            go_simp
            refine (sameC_any cc' dd' Y2).mono fun e Y3 ⟨he, hb3⟩ => ?_
            subst he
            rw [HDq.out]
            refine hK.out _ _ (belJ hHeld hb3) (fun hHeld => ?_)
            clear hK K
            refine wpAnyH_take (i := 23) (v := .bool true) rfl (by kernel_rfl) (by kernel_rfl) (by kernel_rfl) (fun _ _ _ h => h) (Or.inl ⟨by rfl, fun wz _ => ?_⟩) (by assumption) ?_
            · have := eqDD wz
              go_simp
            simp only [Act.put, List.setIfInBounds_toArray, List.set_cons_zero, List.set_cons_succ, List.getElem_toArray, List.getElem_cons_zero, List.getElem_cons_succ]
            refine wpAnyH_take (i := 24) (v := ?_) rfl (by kernel_rfl) (by kernel_rfl) (by kernel_rfl) (fun _ _ _ h => h) (Or.inl ⟨by rfl, ?_⟩) (by assumption) ?_
            rotate_left 1
            · intro wz _
              go_simp
              all_goals with_reducible rfl
            simp only [Act.put, List.setIfInBounds_toArray, List.set_cons_zero, List.set_cons_succ, List.getElem_toArray, List.getElem_cons_zero, List.getElem_cons_succ]
            refine wpAnyH_ready (rs := [25]) (by kernel_rfl) (by simp) (AllReadyH.cons rfl (fun K hK => ?_) AllReadyH.nil)
            go_simp
            refine hK.out _ _ hHeld (fun hHeld => ?_)
            clear hK K
            refine wpAnyH_done (by kernel_rfl) ?_ _
            go_wp2
            go_ret
            exact ⟨rfl, belJ HMb.out hHeld⟩
end Go.Proofs.YthphoiadhddggaaDoor
