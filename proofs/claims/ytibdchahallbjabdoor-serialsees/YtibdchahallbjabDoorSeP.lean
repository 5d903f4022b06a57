/-
  The program's Sees, walked.
-/
import Derived.Test.YtibdchahallbjabDoorFiWZ
import Derived.Test.YtibdchahallbjabDoorSkWZ
import Derived.Test.YtibdchahallbjabDoorChW
import Derived.Deep.CutBlock
import Derived.Deep.DeepCutAuto
namespace Go.Proofs.YtibdchahallbjabDoor
open Go.RowKit

theorem idx68 (v : Nat → Bool) (w : World) : ∀ q : Nat, q < 8 → (Instr.index 68 (octA v) (.int .i64 (q : Int))).run Tryd.prog w = .ok (.bool (v q)) w :=
  all8 (by kernel_rfl) (by kernel_rfl) (by kernel_rfl) (by kernel_rfl) (by kernel_rfl) (by kernel_rfl) (by kernel_rfl) (by kernel_rfl)
theorem DOk.of {l : List Stp} (ok : OkS l) : DOk (doneL l) := fun n hn => by
  have hm := List.getElem_mem hn
  rw [← stZ_at hn] at hm
  obtain ⟨h1, h2⟩ := List.mem_filter.1 hm
  obtain ⟨i, hi, e⟩ := List.getElem_of_mem h1
  rw [← stZ_at hi] at e
  have hk := ok.kind hi
  have ht := ok.tx hi
  have hy := ok.key hi
  unfold doneB at h2
  simp at h2
  rw [← e] at h2 ⊢
  exact ⟨ht, hy, hk.1, by omega⟩
/-- What Sees tells. -/
def SeTold (l : List Stp) (w : World) (e : Ending) (w' : World) : Prop :=
  ∃ v er n pl, e = .returned (.tuple #[v, er]) ∧ CkS l n pl ∧ Below w.heap.size w w' ∧
    ((n ≠ 0 ∧ v = .slice none 0 0 ∧ ErrAt w' er n pl) ∨ (n = 0 ∧ 6 < (cmL l).length ∧ v = .slice none 0 0 ∧ er = toldV 4) ∨
     (n = 0 ∧ (cmL l).length ≤ 6 ∧ seesL l = none ∧ v = .slice none 0 0 ∧ er = toldV 8) ∨
     (n = 0 ∧ (cmL l).length ≤ 6 ∧ ∃ c, seesL l = some c ∧ RowAt w' w.heap.size v (natI c) ∧ er = .nilIface))

theorem seAt_new {W5 W : World} {D R L : Nat} {d : List Stp} {a : Option Addr} {cap : Nat} (hb : Below W5.heap.size W5 W) (hx : ∀ X, Below W5.heap.size W5 X → X.cell? ⟨D, 0, none⟩ = some (.slice a d.length cap)) (hq : StpsQ W5 a d)
    (hR : MapV Tryd.prog mkI W R (List.range d.length).length (rdF d (List.range d.length) (List.range d.length).length)) (hL : MapV Tryd.prog mkI W L (List.range d.length).length (lsF d (List.range d.length))) :
    SeAt (W.alloc (.cells #[.map (some R), .map (some L)] 79)) W.heap.size D d a cap ∧ Below W5.heap.size W5 (W.alloc (.cells #[.map (some R), .map (some L)] 79)) := by
  have hB : Below W5.heap.size W5 (W.alloc (.cells #[.map (some R), .map (some L)] 79)) := belA hb _
  rw [List.length_range] at hR hL
  exact ⟨⟨⟨R, L, by simp, by simp, hR.alloc _, hL.alloc _⟩, hx _ hB, hq.below hB⟩, hB⟩
theorem seAt_lay {W5 W : World} {V D R L : Nat} {d : List Stp} {a : Option Addr} {cap : Nat} (hb : Below W5.heap.size W5 W) (hx : ∀ X, Below W5.heap.size W5 X → X.cell? ⟨D, 0, none⟩ = some (.slice a d.length cap)) (hq : StpsQ W5 a d) (hV : W5.heap.size ≤ V) (hblk : W.heap[V]? = some (.cells #[.map none, .map none] 79 (0, 0)))
    (hR : MapV Tryd.prog mkI W R (List.range d.length).length (rdF d (List.range d.length) (List.range d.length).length)) (hL : MapV Tryd.prog mkI W L (List.range d.length).length (lsF d (List.range d.length))) (nR : R ≠ V) (nL : L ≠ V) :
    SeAt ((W.setCell ⟨V, 0, none⟩ (.map (some R))).setCell ⟨V, 1, none⟩ (.map (some L))) V D d a cap ∧ Below W5.heap.size W5 ((W.setCell ⟨V, 0, none⟩ (.map (some R))).setCell ⟨V, 1, none⟩ (.map (some L))) := by
  have v0 : W.cell? ⟨V, 0, none⟩ = some (.map none) := cell_of_row _ _ _ _ 79 _ hblk
  have v1 : W.cell? ⟨V, 1, none⟩ = some (.map none) := cell_of_row _ _ _ _ 79 _ hblk
  have hg : W.grownBy ((W.setCell ⟨V, 0, none⟩ (.map (some R))).setCell ⟨V, 1, none⟩ (.map (some L))) (some V) := (grown_setCell W ⟨V, 0, none⟩ _).andThen (grown_setCell _ ⟨V, 1, none⟩ _) (fun k hk => .inr hk)
  have hB : Below W5.heap.size W5 ((W.setCell ⟨V, 0, none⟩ (.map (some R))).setCell ⟨V, 1, none⟩ (.map (some L))) := (hb.setCell (p := ⟨V, 0, none⟩) hV _).setCell (p := ⟨V, 1, none⟩) hV _
  rw [List.length_range] at hR hL
  exact ⟨⟨⟨R, L, (World.cell?_setCell_other _ _ _ _ (offN (by decide))).trans (World.cell?_setCell_same _ _ _ v0), World.cell?_setCell_same _ _ _ ((World.cell?_setCell_other _ _ _ _ (offN (by decide))).trans v1), hR.kept hg (by simpa using nR), hL.kept hg (by simpa using nL)⟩, hx _ hB, hq.below hB⟩, hB⟩

set_option maxRecDepth 100000 in
set_option maxHeartbeats 8000000 in
theorem sees_any (l : List Stp) (a : Option Addr) (cap : Nat) (w : World) (hmax : l.length ≤ maxLen) (hl : StpsQ w a l) :
    Calls Tryd.prog 16 #[.slice a l.length cap] w fun e w' => SeTold l w e w' := by
  have HL := hideIt hl
  have HC := hideIt (sCheck_any l a cap w hmax hl)
  clear hl
  unfold SeTold
  go_enter Tryd.func16, Tryd.ntmps16
  go_wp2_with fail
  refine HC.out.mono ?_
  clear HC
  rintro e w1 ⟨v1, n, pl, rfl, her, hck, hb1⟩
  have HE := hideIt her
  have HK := hideIt hck
  have HB1 := hideIt hb1
  clear her hck hb1
  by_cases hn0 : n = 0
  · subst hn0
    obtain ⟨h60, hok, rfl⟩ := HK.out.ok
    have hnil : v1 = .nilIface := by
      rcases HE.out with ⟨_, _, h⟩ | ⟨h, _⟩ | ⟨h, _⟩
      · exact h
      · exact absurd rfl h
      · exact absurd rfl h
    subst hnil
    have HOk : Hid (OkS l) := hok
    clear hok
    have HC := hideIt (committed_any l a cap w1 (by omega) (HL.out.below HB1.out))
    obtain ⟨f, hf⟩ : ∃ f : Nat → Bool, f = fun q : Nat => commB l (q : Int) := ⟨_, rfl⟩
    have hix := idx68 f
    have HCm : Hid (cmL l = (List.range 8).filter f) := by rw [hf]; rfl
    rw [← hf] at HC
    clear hf
    unfold octA at HC hix
    go_wp2_with fail
    refine HC.out.mono ?_
    clear HC
    rintro e w2 ⟨rfl, hb2⟩
    have HB2 := hideIt (belJ HB1.out hb2)
    clear hb2 HB1
    go_wp2
    go_loopw [5, 19] (fun v i wr => ∃ k : Nat, k ≤ 8 ∧ i = .int .i64 k ∧ RowAt wr w2.heap.size v (natI ((List.range k).filter f)) ∧ Below w2.heap.size w2 wr) (fun _ i _ => 8 - (intOf i).toNat)
    case atStart => exact ⟨0, Nat.zero_le _, rfl, rowAt_nil _ _, Below.refl _ _⟩
    case round =>
      obtain ⟨k, hk, rfl, hrow, hb⟩ := hrel
      have HRow := hideIt hrow
      have HB := hideIt hb
      clear hrow hb
      obtain ⟨na, nc, rfl⟩ := HRow.out.slice
      by_cases hk8 : k < 8
      · have hik := hix wr k hk8
        have hk8' : (k : Int) < 8 := by omega
        have HX := hideIt (range_filter f k)
        have hfl : (natI ((List.range k).filter f)).length ≤ 8 := by
          rw [natI_len]
          exact Nat.le_trans (List.length_filter_le _ _) (by rw [List.length_range]; omega)
        have hWs := HB.out.size
        clear hix
        generalize (List.range k).filter f = Dk at HRow HX hfl ⊢
        have hik2 : (Instr.index 68 (.agg #[.bool (f 0), .bool (f 1), .bool (f 2), .bool (f 3), .bool (f 4), .bool (f 5), .bool (f 6), .bool (f 7)]) (.int .i64 (k : Int))).run Tryd.prog wr = .ok (.bool (f k)) wr := hik
        clear hik
        obtain ⟨fb, hfb⟩ : ∃ fb, f k = fb := ⟨_, rfl⟩
        rw [hfb] at hik2 HX
        clear hfb
        cases fb
        · have R : Hid ((List.range (k + 1)).filter f = Dk) := by
            show _ = _
            rw [HX.out]; simp
          clear HX
          go_wp2
          go_roundw
          case rel => exact ⟨k + 1, by omega, by go_num, by rw [R.out]; exact HRow.out, HB.out⟩
          case measure => simp [intOf]; omega
        · have R : Hid ((List.range (k + 1)).filter f = Dk ++ [k]) := by
            show _ = _
            rw [HX.out]; simp
          clear HX
          have HRow2 : Hid (RowAt (wr.alloc (.cells #[.int .i64 (k : Int)] 3)) w2.heap.size (.slice na (natI Dk).length nc) (natI Dk)) := HRow.out.belowR (belA (Below.refl _ _) _)
          go_wp2_with (at_builtin; refine wpList_append_row rfl _ _ rfl w2.heap.size _ (natI Dk) rfl HRow2.out wr.heap.size 1 (k : Int) rfl ?c1 ?c2 ?c3 ?_)
          case c1 => simp
          case c2 => omega
          case c3 => simp; omega
          intro v' w6 ht
          have HG2 : Hid (RowAt w6 w2.heap.size v' (natI (Dk ++ [k]))) := by
            show RowAt w6 w2.heap.size v' (natI (Dk ++ [k]))
            rw [natI_app]; exact ht.row
          have HG3 : Hid (Below w2.heap.size w2 w6) := (belA HB.out _).grown ht.grown (by simp; omega) (fun j hj => (HRow.out.lt j hj).1)
          clear ht
          go_wp2
          go_roundw
          case rel => exact ⟨k + 1, by omega, by go_num, by rw [R.out]; exact HG2.out, HG3.out⟩
          case measure => simp [intOf]; omega
      · obtain rfl : k = 8 := by omega
        rw [← HCm.out] at HRow
        rw [← HCm.out]
        have HB3 := hideIt (belJ HB2.out HB.out)
        have hc8 : (cmL l).length ≤ 8 := by
          unfold cmL
          exact Nat.le_trans (List.length_filter_le _ _) (by simp)
        have hnl : (natI (cmL l)).length = (cmL l).length := natI_len _
        rw [hnl] at HRow
        have HRow3 := hideIt (HRow.out.base (Nat.zero_le _))
        clear HRow hix HB HB2 HCm
        by_cases h6 : (cmL l).length ≤ 6
        · have h6' : ((cmL l).length : Int) ≤ 6 := by omega
          have HSe : Hid (seesL l = tryL (fitB (doneL l)) (cmL l) (cmL l).length []) := rfl
          have HC := hideIt (sDone_any l a cap wr (by omega) (HL.out.below HB3.out))
          obtain ⟨all, hall⟩ : ∃ all, cmL l = all := ⟨_, rfl⟩
          rw [hall] at HRow3 hc8 hnl h6 h6' HSe ⊢
          have HAll := hideIt hall
          clear hall
          have HDk := hideIt (DOk.of HOk.out)
          have hdl : (doneL l).length ≤ 60 := Nat.le_trans (List.length_filter_le _ _) h60
          generalize doneL l = d at HC HDk hdl HSe
          go_wp2_with fail
          refine HC.out.mono ?_
          clear HC
          rintro e w4 ⟨v4, rfl, ho4, hb4⟩
          obtain ⟨a4, c4, rfl, hc4, hq4⟩ := stpsQ_ownT ho4
          have HB4 := hideIt (belJ HB3.out hb4)
          have bA : Below w4.heap.size w4 (w4.alloc (.cells #[.slice a4 d.length c4] 22)) := belA (Below.refl _ _) _
          have HQ5 := hideIt (hq4.below bA)
          have HB5 : Hid (Below w.heap.size w (w4.alloc (.cells #[.slice a4 d.length c4] 22))) := belJ HB4.out bA
          have HR5 := hideIt ((HRow3.out.belowR hb4).belowR bA)
          have x5 : (w4.alloc (.cells #[.slice a4 d.length c4] 22)).cell? ⟨w4.heap.size, 0, none⟩ = some (.slice a4 d.length c4) := by simp
          clear ho4 hb4 hq4 bA HB4 HB3 HRow3
          go_upto_region 14 with fail
          generalize w4.alloc _ = W5 at HQ5 HB5 HR5 x5 ⊢
          generalize w4.heap.size = D at x5 ⊢
          go_cut [9] (fun x wx => ∃ V, x = .pointer (some ⟨V, 0, none⟩) ∧ SeAt wx V D d a4 c4 ∧ Below W5.heap.size W5 wx)
          case first =>
            have HX5 : Hid (∀ W, Below W5.heap.size W5 W → W.cell? ⟨D, 0, none⟩ = some (.slice a4 d.length c4)) := fun W hW => (hW.cell (p := ⟨D, 0, none⟩) (World.block_lt_of_cell? W5 _ x5)).trans x5
            have HMx : Hid (∀ W, Below W5.heap.size W5 W → Calls Tryd.prog 38 #[.slice a4 d.length c4] W fun e w' => ∃ v, e = .returned v ∧ HasI w' v (natI (List.range d.length)) ∧ Below W.heap.size W w') := fun W hW => pMixed_any d a4 c4 W hdl
            have HVw : Hid (∀ W, Below W5.heap.size W5 W → ∀ u, HasI W u (natI (List.range d.length)) → Calls Tryd.prog 37 #[.slice a4 d.length c4, u] W fun e w' => ∃ x, e = .returned x ∧ ViewV w' W.heap.size x d (List.range d.length) ∧ Below W.heap.size W w') := fun W hW u hu => viewOf_any d (List.range d.length) List.nodup_range (fun n h => by simpa using h) (by simp; omega) (by omega) (fun n h => (HDk.out n h).2.1) a4 c4 u W (HQ5.out.below hW) hu
            refine wp_region_held_drew (S := (fun w' => Below W5.heap.size W5 w')) (by kernel_rfl) (Below.refl _ _).drew (fun hHeld => ?_)
            refine wpAnyH_take (i := 0) (v := ?_) rfl (by kernel_rfl) (by kernel_rfl) (by kernel_rfl) (fun _ _ _ h => h) (Or.inl ⟨by rfl, ?_⟩) (by assumption) ?_
            rotate_left 1
            · intro wz sb
              have y0 := HX5.out wz sb
              go_simp
              all_goals with_reducible rfl
            simp only [Act.put, List.setIfInBounds_toArray, List.set_cons_zero, List.set_cons_succ, List.getElem_toArray, List.getElem_cons_zero]
            refine wpAnyH_take (i := 1) (v := ?_) rfl (by kernel_rfl) (by kernel_rfl) (by kernel_rfl) (fun _ _ _ h => h) (Or.inl ⟨by rfl, ?_⟩) (by assumption) ?_
            rotate_left 1
            · intro wz sb
              have y0 := HX5.out wz sb
              go_simp
              all_goals with_reducible rfl
            simp only [Act.put, List.setIfInBounds_toArray, List.set_cons_zero, List.set_cons_succ, List.getElem_toArray, List.getElem_cons_zero, List.getElem_cons_succ]
            refine wpAnyH_ready (rs := [2, 4]) (by kernel_rfl) (by simp) (AllReadyH.cons rfl (fun K hK => ?_) (AllReadyH.cons rfl (fun K hK => ?_) AllReadyH.nil))
            · go_simp
              refine (HMx.out _ hHeld).mono ?_
              rintro e w6 ⟨u6, rfl, hI6, hb6⟩
              refine hK.out _ _ ?_ (fun hHeld => ?_)
              · exact belJ hHeld hb6
              clear hK K
              refine wpAnyH_ready (rs := [3, 4]) (by kernel_rfl) (by simp) (AllReadyH.cons rfl (fun K hK => ?_) (AllReadyH.cons rfl (fun K hK => ?_) AllReadyH.nil))
              · go_simp
                refine (HVw.out _ hHeld u6 hI6).mono ?_
                rintro e w7 ⟨u7, rfl, hV7, hb7⟩
                obtain ⟨R7, L7, rfl, hR0, hL0, hR7, hL7⟩ := hV7
                refine hK.out _ _ ?_ (fun hHeld => ?_)
                · exact belJ hHeld hb7
                clear hK K
                refine wpAnyH_ready (rs := [4]) (by kernel_rfl) (by simp) (AllReadyH.cons rfl (fun K hK => ?_) AllReadyH.nil)
                go_simp
                refine hK.out _ _ ?_ (fun hHeld => ?_)
                · exact hHeld.alloc hHeld.size _
                clear hK K
                have hblk : (w7.alloc (.cells #[.map none, .map none] 79)).heap[w7.heap.size]? = some (.cells #[.map none, .map none] 79 (0, 0)) := heap_alloc_new w7 _
                have hVb : W5.heap.size ≤ w7.heap.size := (show Below W5.heap.size W5 w7 by assumption).size
                have v0 : (w7.alloc (.cells #[.map none, .map none] 79)).cell? ⟨w7.heap.size, 0, none⟩ = some (.map none) := cell_of_row _ _ _ _ 79 _ hblk
                have v1 : (w7.alloc (.cells #[.map none, .map none] 79)).cell? ⟨w7.heap.size, 1, none⟩ = some (.map none) := cell_of_row _ _ _ _ 79 _ hblk
                have z0 := frozen_of_row (w7.alloc (.cells #[.map none, .map none] 79)) w7.heap.size 0 _ 79 hblk
                have z1 := frozen_of_row (w7.alloc (.cells #[.map none, .map none] 79)) w7.heap.size 1 _ 79 hblk
                have HFin := hideIt (seAt_new (show Below W5.heap.size W5 w7 by assumption) HX5.out HQ5.out hR7 hL7)
                refine wpAnyH_ready (rs := [5]) (by kernel_rfl) (by simp) (AllReadyH.cons rfl (fun K hK => ?_) AllReadyH.nil)
                go_simp
                refine hK.out _ _ ?_ (fun hHeld => ?_)
                · exact HFin.out.2
                clear hK K
                refine wpAnyH_done (by kernel_rfl) ?_ _
                go_wp2
                go_meet
                exact ⟨_, rfl, HFin.out.1, HFin.out.2⟩
              · go_simp
                refine hK.out _ _ ?_ (fun hHeld => ?_)
                · exact hHeld.alloc hHeld.size _
                clear hK K
                have hI7 := hI6.below (belA (Below.refl w6.heap.size w6) (.cells #[.map none, .map none] 79))
                have hVb : W5.heap.size ≤ w6.heap.size := (show Below W5.heap.size W5 w6 by assumption).size
                refine wpAnyH_ready (rs := [3]) (by kernel_rfl) (by simp) (AllReadyH.cons rfl (fun K hK => ?_) AllReadyH.nil)
                go_simp
                refine (HVw.out _ hHeld u6 hI7).mono ?_
                rintro e w7 ⟨u7, rfl, hV7, hb7⟩
                obtain ⟨R7, L7, rfl, hR0, hL0, hR7, hL7⟩ := hV7
                refine hK.out _ _ ?_ (fun hHeld => ?_)
                · exact belJ hHeld hb7
                clear hK K
                have hblk : w7.heap[w6.heap.size]? = some (.cells #[.map none, .map none] 79 (0, 0)) := (hb7.block w6.heap.size (by simp)).trans (heap_alloc_new w6 _)
                rw [World.size_alloc] at hR0 hL0
                have v0 : (w7).cell? ⟨w6.heap.size, 0, none⟩ = some (.map none) := cell_of_row _ _ _ _ 79 _ hblk
                have v1 : (w7).cell? ⟨w6.heap.size, 1, none⟩ = some (.map none) := cell_of_row _ _ _ _ 79 _ hblk
                have z0 := frozen_of_row (w7) w6.heap.size 0 _ 79 hblk
                have z1 := frozen_of_row (w7) w6.heap.size 1 _ 79 hblk
                have HFin := hideIt (seAt_lay hHeld HX5.out HQ5.out hVb hblk (hR7) (hL7) (by omega) (by omega))
                refine wpAnyH_ready (rs := [5]) (by kernel_rfl) (by simp) (AllReadyH.cons rfl (fun K hK => ?_) AllReadyH.nil)
                go_simp
                refine hK.out _ _ ?_ (fun hHeld => ?_)
                · exact HFin.out.2
                clear hK K
                refine wpAnyH_done (by kernel_rfl) ?_ _
                go_wp2
                go_meet
                exact ⟨_, rfl, HFin.out.1, HFin.out.2⟩
            · go_simp
              refine hK.out _ _ ?_ (fun hHeld => ?_)
              · exact hHeld.alloc hHeld.size _
              clear hK K
              refine wpAnyH_ready (rs := [2]) (by kernel_rfl) (by simp) (AllReadyH.cons rfl (fun K hK => ?_) AllReadyH.nil)
              go_simp
              refine (HMx.out _ hHeld).mono ?_
              rintro e w6 ⟨u6, rfl, hI6, hb6⟩
              refine hK.out _ _ ?_ (fun hHeld => ?_)
              · exact belJ hHeld hb6
              clear hK K
              refine wpAnyH_ready (rs := [3]) (by kernel_rfl) (by simp) (AllReadyH.cons rfl (fun K hK => ?_) AllReadyH.nil)
              go_simp
              refine (HVw.out _ hHeld u6 hI6).mono ?_
              rintro e w7 ⟨u7, rfl, hV7, hb7⟩
              obtain ⟨R7, L7, rfl, hR0, hL0, hR7, hL7⟩ := hV7
              refine hK.out _ _ ?_ (fun hHeld => ?_)
              · exact belJ hHeld hb7
              clear hK K
              have hs6 : W5.heap.size + 1 ≤ w6.heap.size := by
                have h1 := hb6.size
                have h2 : (W5.alloc (.cells #[.map none, .map none] 79)).drew.heap.size = W5.heap.size + 1 := by
                  show (W5.alloc (.cells #[.map none, .map none] 79)).heap.size = _
                  simp
                omega
              have hblk : w7.heap[W5.heap.size]? = some (.cells #[.map none, .map none] 79 (0, 0)) := (hb7.block W5.heap.size (by omega)).trans ((hb6.block W5.heap.size (by show W5.heap.size < (W5.alloc (.cells #[.map none, .map none] 79)).heap.size; simp)).trans (heap_alloc_new W5 _))
              have hVb : W5.heap.size ≤ W5.heap.size := Nat.le_refl _
              have v0 : (w7).cell? ⟨W5.heap.size, 0, none⟩ = some (.map none) := cell_of_row _ _ _ _ 79 _ hblk
              have v1 : (w7).cell? ⟨W5.heap.size, 1, none⟩ = some (.map none) := cell_of_row _ _ _ _ 79 _ hblk
              have z0 := frozen_of_row (w7) W5.heap.size 0 _ 79 hblk
              have z1 := frozen_of_row (w7) W5.heap.size 1 _ 79 hblk
              have HFin := hideIt (seAt_lay hHeld HX5.out HQ5.out hVb hblk (hR7) (hL7) (by omega) (by omega))
              refine wpAnyH_ready (rs := [5]) (by kernel_rfl) (by simp) (AllReadyH.cons rfl (fun K hK => ?_) AllReadyH.nil)
              go_simp
              refine hK.out _ _ ?_ (fun hHeld => ?_)
              · exact HFin.out.2
              clear hK K
              refine wpAnyH_done (by kernel_rfl) ?_ _
              go_wp2
              go_meet
              exact ⟨_, rfl, HFin.out.1, HFin.out.2⟩
          case rest =>
            rename World => wc
            obtain ⟨V, rfl, hse, hbc⟩ := hcut
            have HBc := hideIt (belJ HB5.out hbc)
            have HRc := hideIt (HR5.out.belowR hbc)
            have HC := hideIt (firstOrder_any (fitB d) all hc8 na nc V D wc HRc.out.hasI fun row v W hW hnd h8 hv => fits_any d HDk.out hdl row hnd h8 V D a4 c4 v W (hse.below hW) hv)
            unfold FoTold at HC
            clear hse hbc HB5 HR5 HQ5 x5
            go_wp2_with fail
            refine HC.out.mono ?_
            clear HC
            rintro e w9 ⟨v9, b9, rfl, hcs, hb9⟩
            have HB9 := hideIt (belJ HBc.out hb9)
            rcases hcs with ⟨rfl, hno⟩ | ⟨rfl, c, hsome, hr9⟩
            · have HS := hideIt (HSe.out.trans hno)
              clear hno hb9
              go_wp2
              go_ret2
              exact ⟨_, _, 0, -1, rfl, HK.out, HB9.out, .inr (.inr (.inl ⟨rfl, by rw [HAll.out]; exact h6, HS.out, rfl, rfl⟩))⟩
            · have HS := hideIt (HSe.out.trans hsome)
              have HR := hideIt (hr9.base HBc.out.size)
              clear hsome hr9 hb9
              go_wp2
              go_ret2
              exact ⟨_, _, 0, -1, rfl, HK.out, HB9.out, .inr (.inr (.inr ⟨rfl, by rw [HAll.out]; exact h6, c, HS.out, HR.out, rfl⟩))⟩
        · have h6' : (6 : Int) < (cmL l).length := by omega
          go_wp2
          go_ret2
          exact ⟨_, _, 0, -1, rfl, HK.out, HB3.out, .inr (.inl ⟨rfl, by omega, rfl, rfl⟩)⟩
  · have hne : ∃ t x, v1 = .iface t x := by
      rcases HE.out with ⟨h, _⟩ | ⟨_, _, h⟩ | ⟨_, _, g, h, _⟩
      · exact absurd h hn0
      · exact ⟨_, _, h⟩
      · exact ⟨_, _, h⟩
    obtain ⟨t, x, rfl⟩ := hne
    go_wp2
    go_ret2
    exact ⟨_, _, n, pl, rfl, HK.out, HB1.out, .inl ⟨hn0, rfl, HE.out⟩⟩
end Go.Proofs.YtibdchahallbjabDoor
