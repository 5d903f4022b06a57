/-
  The program's view.same, slices.Contains, and the order that fits (Sees' own function): walked.
  The program's firstOrder, walked: the first order that fits.
  The program's firstOrder, walked.
-/
import Derived.Test.YtibdchahallbjabDoorVwWZ
import Derived.Test.YtibdchahallbjabDoorRgL
import Derived.Test.YtibdchahallbjabDoorSrPZ
import Derived.Laws.EntriesVeiled
import Derived.Test.YtibdchahallbjabDoorCfW
namespace Go.Proofs.YtibdchahallbjabDoor
open Go.RowKit

/-- Whether the same is seen. -/
def SmTold (d : List Stp) (a b : List Nat) (w : World) (e : Ending) (w' : World) : Prop := ∃ x : Bool, e = .returned (.bool x) ∧ (x = true ↔ sameV2 d a b) ∧ Below w.heap.size w w'
theorem rdF_eq {d : List Stp} {a b : List Nat} {i j : Nat} : (∀ q, rdF d a i q = rdF d b j q) ↔ ∀ q, rdV d a i q = rdV d b j q := by
  constructor
  · intro h q
    have := h (q : Int)
    unfold rdF at this
    rw [if_pos (by omega), if_pos (by omega), Int.toNat_natCast] at this
    cases e1 : rdV d a i q <;> cases e2 : rdV d b j q <;> rw [e1, e2] at this <;> simp at this
    · rw [Int.ofNat.inj this]
  · intro h q
    unfold rdF
    rw [h]
theorem lsF_eq {d : List Stp} {a b : List Nat} : (∀ q, lsF d a q = lsF d b q) ↔ ∀ q, lsV d q a = lsV d q b := by
  constructor
  · intro h q
    have := h q
    unfold lsF at this
    cases e1 : lsV d q a <;> cases e2 : lsV d q b <;> rw [e1, e2] at this <;> simp at this
    · rw [Int.ofNat.inj this]
  · intro h q
    unfold lsF
    rw [h]

set_option maxRecDepth 100000 in
set_option maxHeartbeats 4000000 in
theorem same_any (d : List Stp) (a b : List Nat) (R L R' L' n1 n2 n3 n4 : Nat) (w : World) (h1 : MapV Tryd.prog mkI w R n1 (rdF d a a.length)) (h2 : MapV Tryd.prog mkI w L n2 (lsF d a)) (h3 : MapV Tryd.prog mkI w R' n3 (rdF d b b.length)) (h4 : MapV Tryd.prog mkI w L' n4 (lsF d b)) :
    Calls Tryd.prog 41 #[.agg #[.map (some R), .map (some L)], .agg #[.map (some R'), .map (some L')]] w fun e w' => SmTold d a b w e w' := by
  have HI : Hid (sameV2 d a b ↔ (∀ q, rdF d a a.length q = rdF d b b.length q) ∧ ∀ q, lsF d a q = lsF d b q) := by
    show _ ↔ _
    rw [rdF_eq, lsF_eq]; exact Iff.rfl
  have hb0 : Below w.heap.size w ((w.alloc (.cells #[.map (some R), .map (some L)] 79)).alloc (.cells #[.map (some R'), .map (some L')] 79)) := belA (belA (Below.refl _ _) _) _
  have HB0 := hideIt hb0
  have HC := hideIt (mapsEqual_any _ _ R R' n1 n3 ((w.alloc (.cells #[.map (some R), .map (some L)] 79)).alloc (.cells #[.map (some R'), .map (some L')] 79)) (h1.below hb0 h1.lt) (h3.below hb0 h3.lt))
  have HLs : Hid (∀ W, Below w.heap.size w W → Calls Tryd.prog 62 #[.map (some L), .map (some L')] W fun e w' => EqTold (lsF d a) (lsF d b) W e w') := fun W hW => mapsEqual_any _ _ L L' n2 n4 W (h2.below hW h2.lt) (h4.below hW h4.lt)
  clear h1 h2 h3 h4 hb0
  generalize rdF d a a.length = f1 at HI HC
  generalize rdF d b b.length = f2 at HI HC
  generalize lsF d a = f3 at HI HLs
  generalize lsF d b = f4 at HI HLs
  unfold SmTold
  generalize sameV2 d a b = SV at HI ⊢
  have hs1 : (w.alloc (.cells #[.map (some R), .map (some L)] 79)).heap.size = w.heap.size + 1 := by simp
  have c2 : ((w.alloc (.cells #[.map (some R), .map (some L)] 79)).alloc (.cells #[.map (some R'), .map (some L')] 79)).cell? ⟨w.heap.size, 1, none⟩ = some (.map (some L)) := by
    rw [World.cell?_alloc_lt _ _ ⟨w.heap.size, 1, none⟩ (by simp)]; simp
  have c3 : ((w.alloc (.cells #[.map (some R), .map (some L)] 79)).alloc (.cells #[.map (some R'), .map (some L')] 79)).cell? ⟨w.heap.size + 1, 1, none⟩ = some (.map (some L')) := by
    have := heap_alloc_new (w.alloc (.cells #[.map (some R), .map (some L)] 79)) (.cells #[.map (some R'), .map (some L')] 79)
    rw [hs1] at this
    exact cell_of_row _ _ _ _ 79 _ this
  clear hs1
  unfold EqTold at HC
  go_enter Tryd.func41, Tryd.ntmps41
  go_wp2_with fail
  refine HC.out.mono ?_
  clear HC
  rintro e w1 ⟨b1, rfl, hb1, hbel1⟩
  generalize (w.alloc _).alloc _ = W at HB0 c2 c3 hbel1
  have HB1 := hideIt (belJ HB0.out hbel1)
  have d2 := (hbel1.cell (p := ⟨w.heap.size, 1, none⟩) (World.block_lt_of_cell? W _ c2)).trans c2
  have d3 := (hbel1.cell (p := ⟨w.heap.size + 1, 1, none⟩) (World.block_lt_of_cell? W _ c3)).trans c3
  have HE1 := hideIt hb1
  clear hb1 hbel1 c2 c3
  cases b1
  · have HN : Hid (¬ SV) := fun h => by
      have := HE1.out.2 (HI.out.1 h).1
      cases this
    go_wp2
    go_ret
    exact ⟨false, rfl, ⟨fun h => (by cases h), fun h => absurd h HN.out⟩, HB1.out⟩
  · have HC := hideIt (HLs.out w1 HB1.out)
    unfold EqTold at HC
    go_wp2_with fail
    refine HC.out.mono ?_
    clear HC
    rintro e w2 ⟨b2, rfl, hb2, hbel2⟩
    have HB2 := hideIt (belJ HB1.out hbel2)
    have HE2 := hideIt hb2
    clear hb2 hbel2
    go_wp2
    go_ret
    exact ⟨b2, rfl, ⟨fun h => HI.out.2 ⟨HE1.out.1 trivial, HE2.out.1 h⟩, fun h => HE2.out.2 (HI.out.1 h).2⟩, HB2.out⟩

set_option maxRecDepth 100000 in
set_option maxHeartbeats 2000000 in
theorem slIndex_any (xs : List Nat) (hn : xs.length ≤ 100) (x : Nat) (v : Value) (w : World) (h : HasI w v (natI xs)) :
    Calls Tryd.prog 68 #[v, .int .i64 (x : Int)] w fun e w' => ∃ r : Int, e = .returned (.int .i64 r) ∧ decide (0 ≤ r) = memB xs x ∧ w' = w := by
  obtain ⟨va, vc, rfl, hvc, hcell⟩ := h
  have hnl : (natI xs).length = xs.length := natI_len _
  have HCell : Hid (∀ j (h : j < xs.length), ∃ g off, va = some ⟨g, off, none⟩ ∧ w.cell? ⟨g, off + j, none⟩ = some (.int .i64 (xs[j] : Int))) := fun j h => by
    obtain ⟨g, off, e, hc⟩ := hcell j (by rw [hnl]; exact h)
    exact ⟨g, off, e, by rw [hc]; simp [natI]⟩
  rw [hnl]
  clear hcell hnl hvc
  go_enter Tryd.func68, Tryd.ntmps68
  go_wp2
  go_loop [8] (fun i => ∃ k : Nat, k ≤ xs.length ∧ i = .int .i64 k ∧ ∀ j (h : j < xs.length), j < k → xs[j] ≠ x) (fun i => xs.length - (intOf i).toNat)
  case atStart => exact ⟨0, Nat.zero_le _, rfl, fun j _ hj => absurd hj (by omega)⟩
  case round =>
    obtain ⟨k, hk, rfl, hno⟩ := hrel
    have HNo := hideIt hno
    clear hno
    by_cases hkl : k < xs.length
    · obtain ⟨g, off, rfl, r0⟩ := HCell.out k hkl
      have hkl' : (k : Int) < xs.length := by omega
      by_cases he : xs[k] = x
      · have HM : Hid (memB xs x = true) := memB_iff.2 (he ▸ List.getElem_mem hkl)
        have he' : ((x : Int) == (xs[k] : Int)) = true := by simp [he]
        rw [he] at r0 he'
        clear he
        go_wp2
        go_ret
        exact ⟨_, rfl, by rw [HM.out]; simp, rfl⟩
      · have R : Hid (∀ j (h : j < xs.length), j < k + 1 → xs[j] ≠ x) := fun j h hj => by
          by_cases e : j = k
          · subst e; exact he
          · exact HNo.out j h (by omega)
        have he' : ((x : Int) == (xs[k] : Int)) = false := by simp; omega
        generalize xs[k] = y at r0 he'
        clear he
        go_wp2
        go_round
        case rel => exact ⟨k + 1, by omega, by go_num, R.out⟩
        case measure => simp [intOf]; omega
    · obtain rfl : k = xs.length := by omega
      have HM : Hid (memB xs x = false) := by
        show memB xs x = false
        cases e : memB xs x
        · rfl
        · obtain ⟨i, hi, h⟩ := List.getElem_of_mem (memB_iff.1 e)
          exact absurd h (HNo.out i hi hi)
      go_wp2
      go_ret
      exact ⟨_, rfl, by rw [HM.out]; rfl, rfl⟩

set_option maxRecDepth 100000 in
theorem contains_any (xs : List Nat) (hn : xs.length ≤ 100) (x : Nat) (v : Value) (w : World) (h : HasI w v (natI xs)) :
    Calls Tryd.prog 61 #[v, .int .i64 (x : Int)] w fun e w' => e = .returned (.bool (memB xs x)) ∧ w' = w := by
  have HC := hideIt (slIndex_any xs hn x v w h)
  clear h
  go_enter Tryd.func61, Tryd.ntmps61
  go_wp2_with fail
  refine HC.out.mono ?_
  clear HC
  rintro e w1 ⟨r, rfl, hr, rfl⟩
  have HR := hideIt hr
  clear hr
  go_wp2
  go_ret
  exact ⟨ret_bool HR.out, rfl⟩

/-- What the order that fits is asked by: the view of the steps as they stand (V), the steps (D). -/
structure SeAt (w : World) (V D : Nat) (d : List Stp) (a : Option Addr) (cap : Nat) : Prop where
  vw : ∃ R L, w.cell? ⟨V, 0, none⟩ = some (.map (some R)) ∧ w.cell? ⟨V, 1, none⟩ = some (.map (some L)) ∧ MapV Tryd.prog mkI w R d.length (rdF d (List.range d.length) d.length) ∧ MapV Tryd.prog mkI w L d.length (lsF d (List.range d.length))
  dn : w.cell? ⟨D, 0, none⟩ = some (.slice a d.length cap)
  at_ : StpsQ w a d
theorem SeAt.below {w w' : World} {V D : Nat} {d : List Stp} {a : Option Addr} {cap : Nat} (h : SeAt w V D d a cap) (hb : Below w.heap.size w w') : SeAt w' V D d a cap := by
  obtain ⟨R, L, h1, h2, h3, h4⟩ := h.vw
  exact ⟨⟨R, L, (hb.cell (p := ⟨V, 0, none⟩) (World.block_lt_of_cell? w _ h1)).trans h1, (hb.cell (p := ⟨V, 1, none⟩) (World.block_lt_of_cell? w _ h2)).trans h2, h3.below hb h3.lt, h4.below hb h4.lt⟩, (hb.cell (p := ⟨D, 0, none⟩) (World.block_lt_of_cell? w _ h.dn)).trans h.dn, h.at_.below hb⟩

set_option maxRecDepth 100000 in
set_option maxHeartbeats 4000000 in
theorem fits_any (d : List Stp) (hd : DOk d) (hn : d.length ≤ 60) (ord : List Nat) (ho : ord.Nodup) (ho8 : ord.length ≤ 8) (V D : Nat) (a : Option Addr) (cap : Nat) (v : Value) (w : World) (hs : SeAt w V D d a cap) (hv : HasI w v (natI ord)) :
    Calls Tryd.prog 40 #[v, .pointer (some ⟨V, 0, none⟩), .pointer (some ⟨D, 0, none⟩)] w fun e w' => e = .returned (.bool (fitB d ord)) ∧ Below w.heap.size w w' := by
  obtain ⟨R, L, c0, c1, m0, m1⟩ := hs.vw
  have HX0 : Hid (∀ W, Below w.heap.size w W → W.cell? ⟨V, 0, none⟩ = some (.map (some R))) := fun W hW => (hW.cell (p := ⟨V, 0, none⟩) (World.block_lt_of_cell? w _ c0)).trans c0
  have HX1 : Hid (∀ W, Below w.heap.size w W → W.cell? ⟨V, 1, none⟩ = some (.map (some L))) := fun W hW => (hW.cell (p := ⟨V, 1, none⟩) (World.block_lt_of_cell? w _ c1)).trans c1
  have HX2 : Hid (∀ W, Below w.heap.size w W → W.cell? ⟨D, 0, none⟩ = some (.slice a d.length cap)) := fun W hW => (hW.cell (p := ⟨D, 0, none⟩) (World.block_lt_of_cell? w _ hs.dn)).trans hs.dn
  have HAp : Hid (∀ W, Below w.heap.size w W → Calls Tryd.prog 42 #[.slice a d.length cap, v] W fun e w' => ∃ u, e = .returned u ∧ HasI w' u (natI (apL d ord)) ∧ Below W.heap.size W w') := fun W hW => apart_any d ord (fun n h => (hd n h).1.1) a cap v W hn ho8 (hs.at_.below hW) (hv.below hW)
  have hal : (apL d ord).length ≤ 100 := by
    have := nodup_sub (m := List.range d.length) (apL_nodup (d := d) ho) fun x hx => List.mem_range.2 (apL_mem.1 hx).1
    rw [List.length_range] at this
    omega
  have HVi : Hid (∀ W, Below w.heap.size w W → ∀ u, HasI W u (natI (apL d ord)) → Calls Tryd.prog 37 #[.slice a d.length cap, u] W fun e w' => ∃ x, e = .returned x ∧ ViewV w' W.heap.size x d (apL d ord) ∧ Below W.heap.size W w') := fun W hW u hu => viewOf_any d (apL d ord) (apL_nodup ho) (fun n h => (apL_mem.1 h).1) hal (by omega) (fun n h => (hd n h).2.1) a cap u W (hs.at_.below hW) hu
  have HSm : Hid (∀ W, Below w.heap.size w W → ∀ R' L', MapV Tryd.prog mkI W R' (apL d ord).length (rdF d (apL d ord) (apL d ord).length) → MapV Tryd.prog mkI W L' (apL d ord).length (lsF d (apL d ord)) → Calls Tryd.prog 41 #[.agg #[.map (some R), .map (some L)], .agg #[.map (some R'), .map (some L')]] W fun e w' => e = .returned (.bool (fitB d ord)) ∧ Below W.heap.size W w') := fun W hW R' L' h3 h4 => by
    have m0' := m0.below hW m0.lt
    rw [show d.length = (List.range d.length).length by simp] at m0'
    refine (same_any d (List.range d.length) (apL d ord) R L R' L' _ _ _ _ W (by simpa using m0') (m1.below hW m1.lt) h3 h4).mono ?_
    rintro e w' ⟨x, rfl, hx, hb⟩
    refine ⟨ret_bool ?_, hb⟩
    rw [Bool.eq_iff_iff, hx, fitB_iff hd]
  obtain ⟨va, vc, rfl, _, _⟩ := hv
  clear hs c0 c1 m0 m1
  generalize fitB d ord = fb at HSm ⊢
  go_enter Tryd.func40, Tryd.ntmps40
  go_upto_region 1 with fail
  refine wp_region_held_drew (S := (fun w' => Below w.heap.size w w')) (by kernel_rfl) (Below.refl _ _).drew (fun hHeld => ?_)
  refine wpAnyH_take (i := 0) (v := ?_) rfl (by kernel_rfl) (by kernel_rfl) (by kernel_rfl) (fun _ _ _ h => h) (Or.inl ⟨by rfl, ?_⟩) (by assumption) ?_
  rotate_left 1
  · intro wz sb
    have x0 := HX0.out wz sb
    have x1 := HX1.out wz sb
    have x2 := HX2.out wz sb
    go_simp
    all_goals with_reducible rfl
  simp only [Act.put, List.setIfInBounds_toArray, List.set_cons_zero, List.set_cons_succ, List.getElem_toArray, List.getElem_cons_zero]
  refine wpAnyH_take (i := 1) (v := ?_) rfl (by kernel_rfl) (by kernel_rfl) (by kernel_rfl) (fun _ _ _ h => h) (Or.inl ⟨by rfl, ?_⟩) (by assumption) ?_
  rotate_left 1
  · intro wz sb
    have x0 := HX0.out wz sb
    have x1 := HX1.out wz sb
    have x2 := HX2.out wz sb
    go_simp
    all_goals with_reducible rfl
  simp only [Act.put, List.setIfInBounds_toArray, List.set_cons_zero, List.set_cons_succ, List.getElem_toArray, List.getElem_cons_zero, List.getElem_cons_succ]
  refine wpAnyH_take (i := 2) (v := ?_) rfl (by kernel_rfl) (by kernel_rfl) (by kernel_rfl) (fun _ _ _ h => h) (Or.inl ⟨by rfl, ?_⟩) (by assumption) ?_
  rotate_left 1
  · intro wz sb
    have x0 := HX0.out wz sb
    have x1 := HX1.out wz sb
    have x2 := HX2.out wz sb
    go_simp
    all_goals with_reducible rfl
  simp only [Act.put, List.setIfInBounds_toArray, List.set_cons_zero, List.set_cons_succ, List.getElem_toArray, List.getElem_cons_zero, List.getElem_cons_succ]
  refine wpAnyH_take (i := 3) (v := ?_) rfl (by kernel_rfl) (by kernel_rfl) (by kernel_rfl) (fun _ _ _ h => h) (Or.inl ⟨by rfl, ?_⟩) (by assumption) ?_
  rotate_left 1
  · intro wz sb
    have x0 := HX0.out wz sb
    have x1 := HX1.out wz sb
    have x2 := HX2.out wz sb
    go_simp
    all_goals with_reducible rfl
  simp only [Act.put, List.setIfInBounds_toArray, List.set_cons_zero, List.set_cons_succ, List.getElem_toArray, List.getElem_cons_zero, List.getElem_cons_succ]
  refine wpAnyH_ready (rs := [4]) (by kernel_rfl) (by simp) (AllReadyH.cons rfl (fun K hK => ?_) AllReadyH.nil)
  go_simp
  refine (HAp.out _ hHeld).mono ?_
  rintro e w2 ⟨u2, rfl, hI2, hb2⟩
  refine hK.out _ _ ?_ (fun hHeld => ?_)
  · exact belJ hHeld hb2
  clear hK K
  have HVo := hideIt (HVi.out _ hHeld u2 hI2)
  clear hI2 hb2
  refine wpAnyH_ready (rs := [5]) (by kernel_rfl) (by simp) (AllReadyH.cons rfl (fun K hK => ?_) AllReadyH.nil)
  go_simp
  refine (HVo.out).mono ?_
  rintro e w3 ⟨u3, rfl, hV3, hb3⟩
  refine hK.out _ _ ?_ (fun hHeld => ?_)
  · exact belJ hHeld hb3
  clear hK K
  obtain ⟨R3, L3, rfl, _, _, hR3, hL3⟩ := hV3
  have HSa := hideIt (HSm.out _ hHeld R3 L3 hR3 hL3)
  clear hR3 hL3 hb3 HVo
  refine wpAnyH_ready (rs := [6]) (by kernel_rfl) (by simp) (AllReadyH.cons rfl (fun K hK => ?_) AllReadyH.nil)
  go_simp
  refine (HSa.out).mono ?_
  rintro e w4 ⟨rfl, hb4⟩
  refine hK.out _ _ ?_ (fun hHeld => ?_)
  · exact belJ hHeld hb4
  clear hK K
  refine wpAnyH_ready (rs := [7]) (by kernel_rfl) (by simp) (AllReadyH.cons rfl (fun K hK => ?_) AllReadyH.nil)
  go_simp
  refine hK.out _ _ ?_ (fun hHeld => ?_)
  · exact hHeld
  clear hK K
  refine wpAnyH_done (by kernel_rfl) ?_ _
  go_wp2
  go_ret
  exact ⟨rfl, by assumption⟩
end Go.Proofs.YtibdchahallbjabDoor

namespace Go.Proofs.YtibdchahallbjabDoor
open Go.RowKit

theorem findL_at {α β : Type} {f : α → Option β} {c : β} : ∀ {l : List α} {k : Nat} (hk : k < l.length), f l[k] = some c → (∀ j (hj : j < l.length), j < k → f l[j] = none) → l.findSome? f = some c
  | x :: l, 0, _, h, _ => by
    have h' : f x = some c := h
    rw [List.findSome?_cons, h']
  | x :: l, k + 1, hk, h, hn => by
    have h0 : f x = none := hn 0 (by simp) (by omega)
    rw [List.findSome?_cons, h0]
    exact findL_at (k := k) (by simpa using hk) (by simpa using h) fun j hj hjk => by
      have := hn (j + 1) (by simpa using hj) (by omega)
      simpa using this
theorem findL_no {α β : Type} {f : α → Option β} {l : List α} (h : ∀ j (hj : j < l.length), f l[j] = none) : l.findSome? f = none := by
  rw [List.findSome?_eq_none_iff]
  intro x hx
  obtain ⟨i, hi, rfl⟩ := List.getElem_of_mem hx
  exact h i hi

/-- What the search works on: the boxes of all (at the first new block), of what fits, of the row, of itself. -/
structure TrBx (w0 : World) (al fv : Value) (w : World) : Prop where
  bel : Below w0.heap.size w0 w
  ab : w.cell? ⟨w0.heap.size, 0, none⟩ = some al
  fb : w.cell? ⟨w0.heap.size + 1, 0, none⟩ = some fv
  ob : ∃ cur t, w.heap[w0.heap.size + 2]? = some (.cells cur t (0, 0))
  oc : ∃ v, w.cell? ⟨w0.heap.size + 2, 0, none⟩ = some v
  tc : w.cell? ⟨w0.heap.size + 3, 0, none⟩ = some (.func (Fn.func 60) #[] #[.pointer (some ⟨w0.heap.size + 2, 0, none⟩), .pointer (some ⟨w0.heap.size, 0, none⟩), .pointer (some ⟨w0.heap.size + 1, 0, none⟩), .pointer (some ⟨w0.heap.size + 3, 0, none⟩)])
structure TrAt (w0 : World) (al fv : Value) (w : World) (row : List Nat) : Prop where
  bx : TrBx w0 al fv w
  rw_ : ∃ v, w.cell? ⟨w0.heap.size + 2, 0, none⟩ = some v ∧ RowAt w (w0.heap.size + 4) v (natI row)
section
variable {w0 : World} {al fv : Value} {w w' : World} {row : List Nat}
theorem TrBx.lt (h : TrBx w0 al fv w) : w0.heap.size + 3 < w.heap.size := World.block_lt_of_cell? w _ h.tc
theorem TrBx.fz (h : TrBx w0 al fv w) : w.frozen? ⟨w0.heap.size + 2, 0, none⟩ = false := by
  obtain ⟨cur, t, hc⟩ := h.ob
  exact frozen_of_row w _ 0 cur t hc
theorem TrBx.kept (h : TrBx w0 al fv w) (hk : ∀ j, j < w0.heap.size + 4 → w'.heap[j]? = w.heap[j]?) (hb : Below w0.heap.size w0 w') : TrBx w0 al fv w' := by
  obtain ⟨cur, t, hc⟩ := h.ob
  obtain ⟨v, hv⟩ := h.oc
  have k0 := hk w0.heap.size (by omega)
  have k1 := hk (w0.heap.size + 1) (by omega)
  have k2 := hk (w0.heap.size + 2) (by omega)
  have k3 := hk (w0.heap.size + 3) (by omega)
  exact ⟨hb, (World.cell?_of_block (a := ⟨w0.heap.size, 0, none⟩) k0).trans h.ab, (World.cell?_of_block (a := ⟨w0.heap.size + 1, 0, none⟩) k1).trans h.fb, ⟨cur, t, k2.trans hc⟩, ⟨v, (World.cell?_of_block (a := ⟨w0.heap.size + 2, 0, none⟩) k2).trans hv⟩, (World.cell?_of_block (a := ⟨w0.heap.size + 3, 0, none⟩) k3).trans h.tc⟩
theorem TrAt.below (h : TrAt w0 al fv w row) (hb : Below w.heap.size w w') : TrAt w0 al fv w' row := by
  have hl := h.bx.lt
  obtain ⟨v, hv, hr⟩ := h.rw_
  exact ⟨h.bx.kept (fun j hj => hb.block j (by omega)) (belJ h.bx.bel hb), v, (hb.cell (p := ⟨w0.heap.size + 2, 0, none⟩) (by show w0.heap.size + 2 < _; omega)).trans hv, hr.belowR hb⟩
theorem TrBx.lay (h : TrBx w0 al fv w) {v : Value} (hr : RowAt w (w0.heap.size + 4) v (natI row)) : TrAt w0 al fv (w.setCell ⟨w0.heap.size + 2, 0, none⟩ v) row := by
  obtain ⟨cur, t, hc⟩ := h.ob
  obtain ⟨u, hu⟩ := h.oc
  obtain ⟨cur', hc', _⟩ := heap_setCell hc 0 v
  refine ⟨⟨h.bel.setCell (p := ⟨w0.heap.size + 2, 0, none⟩) (by show w0.heap.size ≤ w0.heap.size + 2; omega) _, ?_, ?_, ⟨cur', t, hc'⟩, ⟨v, World.cell?_setCell_same _ _ _ hu⟩, ?_⟩, v, World.cell?_setCell_same _ _ _ hu, hr.setOther (p := ⟨w0.heap.size + 2, 0, none⟩) (by show w0.heap.size + 2 < w0.heap.size + 4; omega) _⟩
  · exact (World.cell?_setCell_other _ _ _ _ (blkNe (by omega))).trans h.ab
  · exact (World.cell?_setCell_other _ _ _ _ (blkNe (by omega))).trans h.fb
  · exact (World.cell?_setCell_other _ _ _ _ (blkNe (by omega))).trans h.tc
end
/-- What a part of the search tells. -/
def TrTold (w0 : World) (al fv : Value) (F : List Nat → Bool) (all : List Nat) (f : Nat) (row : List Nat) (e : Ending) (w' : World) : Prop :=
  (e = .returned (.bool false) ∧ tryL F all f row = none ∧ TrAt w0 al fv w' row) ∨ ∃ c, e = .returned (.bool true) ∧ tryL F all f row = some c ∧ TrAt w0 al fv w' c

set_option maxRecDepth 100000 in
set_option maxHeartbeats 4000000 in
theorem try_any (F : List Nat → Bool) (all : List Nat) (hal : all.length ≤ 8) (aa : Option Addr) (ac V D : Nat) (w0 : World) (hA : HasI w0 (.slice aa all.length ac) (natI all))
    (hF : ∀ row v W, Below w0.heap.size w0 W → row.Nodup → row.length ≤ 8 → HasI W v (natI row) → Calls Tryd.prog 40 #[v, .pointer (some ⟨V, 0, none⟩), .pointer (some ⟨D, 0, none⟩)] W fun e w' => e = .returned (.bool (F row)) ∧ Below W.heap.size W w') :
    ∀ (f : Nat) (row : List Nat) (w : World), row.length + f = all.length → row.Nodup → TrAt w0 (.slice aa all.length ac) (.func (Fn.func 40) #[] #[.pointer (some ⟨V, 0, none⟩), .pointer (some ⟨D, 0, none⟩)]) w row →
    Calls Tryd.prog 60 #[.pointer (some ⟨w0.heap.size + 2, 0, none⟩), .pointer (some ⟨w0.heap.size, 0, none⟩), .pointer (some ⟨w0.heap.size + 1, 0, none⟩), .pointer (some ⟨w0.heap.size + 3, 0, none⟩)] w fun e w' => TrTold w0 (.slice aa all.length ac) (.func (Fn.func 40) #[] #[.pointer (some ⟨V, 0, none⟩), .pointer (some ⟨D, 0, none⟩)]) F all f row e w'
  | 0, row, w, hf, hnd, hc => by
    obtain ⟨v, hv, hrow⟩ := hc.rw_
    obtain ⟨va, vc, rfl⟩ := hrow.slice
    have HC := hideIt hc
    have HFc := hideIt (hF row _ w hc.bx.bel hnd (by omega) hrow.hasI)
    have hll : (natI row).length = all.length := by rw [natI_len]; omega
    rw [hll] at hv HFc
    have HTr : Hid (tryL F all 0 row = if F row then some row else none) := rfl
    have x0 := hc.bx.ab
    have x1 := hc.bx.fb
    clear hc hrow hll
    unfold TrTold
    generalize F row = fr at HFc HTr
    go_enter Tryd.func60, Tryd.ntmps60
    go_wp2_with fail
    refine HFc.out.mono ?_
    clear HFc
    rintro e w1 ⟨rfl, hb1⟩
    have HC1 := hideIt (HC.out.below hb1)
    clear hb1 HC
    go_wp2
    go_ret
    cases fr
    · exact .inl ⟨rfl, HTr.out, HC1.out⟩
    · exact .inr ⟨row, rfl, HTr.out, HC1.out⟩
  | f + 1, row, w, hf, hnd, hc => by
    obtain ⟨v, hv, hrow⟩ := hc.rw_
    obtain ⟨va, vc, rfl⟩ := hrow.slice
    have HC := hideIt hc
    rw [natI_len] at hv
    have HTr : Hid (tryL F all (f + 1) row = all.findSome? fun k => if memB row k then none else tryL F all f (row ++ [k])) := rfl
    have HIh : Hid (∀ k w', memB row k = false → TrAt w0 (.slice aa all.length ac) (.func (Fn.func 40) #[] #[.pointer (some ⟨V, 0, none⟩), .pointer (some ⟨D, 0, none⟩)]) w' (row ++ [k]) → Calls Tryd.prog 60 #[.pointer (some ⟨w0.heap.size + 2, 0, none⟩), .pointer (some ⟨w0.heap.size, 0, none⟩), .pointer (some ⟨w0.heap.size + 1, 0, none⟩), .pointer (some ⟨w0.heap.size + 3, 0, none⟩)] w' fun e w'' => TrTold w0 (.slice aa all.length ac) (.func (Fn.func 40) #[] #[.pointer (some ⟨V, 0, none⟩), .pointer (some ⟨D, 0, none⟩)]) F all f (row ++ [k]) e w'') := fun k w' hm hc' =>
      try_any F all hal aa ac V D w0 hA hF f (row ++ [k]) w' (by simp; omega) (List.nodup_append.2 ⟨hnd, by simp, fun x hx y hy e => by
        rw [List.mem_singleton.1 hy] at e
        subst e
        have := memB_iff.2 hx
        rw [hm] at this
        cases this⟩) hc'
    have HCell : Hid (∀ j (h : j < all.length), ∃ g off, aa = some ⟨g, off, none⟩ ∧ ∀ W, Below w0.heap.size w0 W → W.cell? ⟨g, off + j, none⟩ = some (.int .i64 (all[j] : Int))) := fun j h => by
      obtain ⟨a2, c2, e2, _, hcell⟩ := hA
      injection e2 with e3 e4 e5
      subst e3 e5
      obtain ⟨g, off, e, hc⟩ := hcell j (by rw [natI_len]; exact h)
      exact ⟨g, off, e, fun W hW => (hW.cell (p := ⟨g, off + j, none⟩) (World.block_lt_of_cell? w0 _ hc)).trans (by rw [hc]; simp [natI])⟩
    have hne : ((row.length : Int) == (all.length : Int)) = false := by simp; omega
    have hrl : row.length < 8 := by omega
    have x0 := hc.bx.ab
    clear hc hrow hF hA
    unfold TrTold at HIh ⊢
    go_enter Tryd.func60, Tryd.ntmps60
    go_wp2
    clear x0 hv hne
    go_loopw [17] (fun v wr => ∃ k : Nat, k ≤ all.length ∧ v = .int .i64 k ∧ (∀ j (h : j < all.length), j < k → (if memB row all[j] then none else tryL F all f (row ++ [all[j]])) = none) ∧ TrAt w0 (.slice aa all.length ac) (.func (Fn.func 40) #[] #[.pointer (some ⟨V, 0, none⟩), .pointer (some ⟨D, 0, none⟩)]) wr row) (fun v _ => all.length - (intOf v).toNat)
    case atStart => exact ⟨0, Nat.zero_le _, rfl, fun j _ hj => absurd hj (by omega), HC.out⟩
    case round =>
      clear HC
      obtain ⟨k, hk, rfl, hno, hc⟩ := hrel
      have HNo := hideIt hno
      have HC := hideIt hc
      clear hno hc
      by_cases hkn : k < all.length
      · have hkn' : (k : Int) < all.length := by omega
        obtain ⟨g, off, rfl, hcl⟩ := HCell.out k hkn
        have r0 := hcl wr HC.out.bx.bel
        have HNx : Hid ((if memB row all[k] then none else tryL F all f (row ++ [all[k]])) = none → ∀ j (h : j < all.length), j < k + 1 → (if memB row all[j] then none else tryL F all f (row ++ [all[j]])) = none) := fun h j hj hjk => by
          by_cases e : j = k
          · subst e; exact h
          · exact HNo.out j hj (by omega)
        have HS0 : Hid (∀ c, (if memB row all[k] then none else tryL F all f (row ++ [all[k]])) = some c → tryL F all (f + 1) row = some c) := fun c h => by
          show tryL F all (f + 1) row = some c
          rw [HTr.out]
          exact findL_at (f := fun k => if memB row k then none else tryL F all f (row ++ [k])) hkn h HNo.out
        clear hcl
        generalize all[k] = x at r0 HNx HS0
        obtain ⟨v, hv, hrow⟩ := HC.out.rw_
        obtain ⟨va2, vc2, rfl⟩ := hrow.slice
        have HIx := hideIt (contains_any row (by omega) x _ wr hrow.hasI)
        rw [natI_len] at hv HIx
        obtain ⟨mb, hmb⟩ : ∃ mb, memB row x = mb := ⟨_, rfl⟩
        rw [hmb] at HIx HNx HS0
        have HMb := hideIt hmb
        have HRow := hideIt hrow
        clear hmb hrow
        cases mb
        · rw [natI_len] at HRow
          have HRow2 : Hid (RowAt (wr.alloc (.cells #[.int .i64 (x : Int)] 3)) (w0.heap.size + 4) (.slice va2 row.length vc2) (natI row)) := HRow.out.belowR (belA (Below.refl _ _) _)
          have hFs := HC.out.bx.lt
          have HBx := hideIt HC.out.bx
          go_wp2_with fail
          refine HIx.out.mono ?_
          clear HIx
          rintro e w1 ⟨rfl, rfl⟩
          go_wp2_with (at_builtin; refine wpList_append_row rfl _ _ rfl (w0.heap.size + 4) _ (natI row) rfl HRow2.out w1.heap.size 1 (x : Int) rfl ?c1 ?c2 ?c3 ?_)
          case c1 => simp
          case c2 => rw [natI_len]; omega
          case c3 => simp; omega
          intro v' w3 ht
          obtain ⟨xa, xc, hv'⟩ := ht.row.slice
          rw [show (natI row ++ [(x : Int)]).length = row.length + 1 by simp [natI_len]] at hv'
          subst hv'
          have hb3 : Below w0.heap.size w0 w3 := ((HBx.out.bel).alloc (HBx.out.bel.size) (.cells #[.int .i64 (x : Int)] 3)).grown ht.grown (by have := HBx.out.bel.size; simp; omega) (fun j hj => by have := (HRow2.out.lt j hj).1; omega)
          have hkb : ∀ j, j < w0.heap.size + 4 → w3.heap[j]? = w1.heap[j]? := fun j hj => by
            rw [ht.grown.block j (by simp; omega) (fun e => by have := (HRow2.out.lt j e.symm).1; omega)]
            exact Below.heap_alloc _ _ _ (by omega)
          have HBx3 := hideIt (HBx.out.kept hkb hb3)
          have HCn : Hid (TrAt w0 (.slice (some ⟨g, off, none⟩) all.length ac) (.func (Fn.func 40) #[] #[.pointer (some ⟨V, 0, none⟩), .pointer (some ⟨D, 0, none⟩)]) (w3.setCell ⟨w0.heap.size + 2, 0, none⟩ (.slice xa (row.length + 1) xc)) (row ++ [x])) := HBx3.out.lay (by rw [natI_app]; exact ht.row)
          obtain ⟨vo, hvo⟩ := HBx3.out.oc
          have zvo := HBx3.out.fz
          have HCall := hideIt (HIh.out x _ HMb.out HCn.out)
          have kk := HCn.out.bx.tc
          have kk0 := HBx3.out.tc
          have hFF : ¬ w0.heap.size + 2 = w0.heap.size + 3 := by omega
          clear ht hb3 hkb HRow HRow2 hv r0
          go_wp2_with fail
          refine HCall.out.mono ?_
          clear HCall kk kk0 hvo zvo HCn HBx3 HBx
          rintro e w4 (⟨rfl, hno2, hc4⟩ | ⟨c, rfl, hsome, hc4⟩)
          · obtain ⟨v5, hv5, hr5⟩ := hc4.rw_
            obtain ⟨ya, yc, hv5'⟩ := hr5.slice
            rw [natI_len, List.length_append, List.length_singleton] at hv5'
            subst hv5'
            rw [natI_app] at hr5
            have hyc : row.length + 1 ≤ yc := by
              obtain ⟨a7, c7, e7, h7, _⟩ := hr5.hasI
              injection e7 with _ _ e8
              simp [natI_len] at h7
              omega
            have hr6 := hr5.short
            rw [natI_len] at hr6
            have HC6 := hideIt (hc4.bx.lay hr6)
            have z5 := hc4.bx.fz
            have R1 := hideIt (HNx.out (by simpa using hno2))
            have hyc' : (row.length : Int) + 1 ≤ yc := by omega
            clear hno2 hc4 hr5 hr6
            go_wp2
            go_roundw
            case rel => exact ⟨k + 1, by omega, by go_num, R1.out, HC6.out⟩
            case measure => simp [intOf]; omega
          · have HS := hideIt (HS0.out c (by simpa using hsome))
            have HC6 := hideIt hc4
            clear hsome hc4
            go_wp2
            go_ret
            exact .inr ⟨c, rfl, HS.out, HC6.out⟩
        · have R1 := hideIt (HNx.out rfl)
          go_wp2_with fail
          refine HIx.out.mono ?_
          clear HIx
          rintro e w1 ⟨rfl, rfl⟩
          go_wp2
          go_roundw
          case rel => exact ⟨k + 1, by omega, by go_num, R1.out, HC.out⟩
          case measure => simp [intOf]; omega
      · have HN : Hid (tryL F all (f + 1) row = none) := by
          show tryL F all (f + 1) row = none
          rw [HTr.out]
          exact findL_no (f := fun k => if memB row k then none else tryL F all f (row ++ [k])) fun j hj => HNo.out j hj (by omega)
        go_wp2
        go_ret
        exact .inl ⟨rfl, HN.out, HC.out⟩
end Go.Proofs.YtibdchahallbjabDoor

namespace Go.Proofs.YtibdchahallbjabDoor
open Go.RowKit

/-- What it tells. -/
def FoTold (F : List Nat → Bool) (all : List Nat) (w : World) (e : Ending) (w' : World) : Prop :=
  ∃ v b, e = .returned (.tuple #[v, .bool b]) ∧ ((b = false ∧ tryL F all all.length [] = none) ∨ (b = true ∧ ∃ c, tryL F all all.length [] = some c ∧ RowAt w' w.heap.size v (natI c))) ∧ Below w.heap.size w w'
theorem load29 {w : World} {g : Nat} {x : Value} (h0 : w.cell? ⟨g, 0, none⟩ = some x) (hx : ∃ a n c, x = .slice a n c) : (loadVar 29 ⟨g, 0, none⟩).run Tryd.prog w = .ok x w := by
  obtain ⟨a, n, c, rfl⟩ := hx
  simp [loadVar, h0, go_sem]

set_option maxRecDepth 100000 in
set_option maxHeartbeats 4000000 in
theorem firstOrder_any (F : List Nat → Bool) (all : List Nat) (hal : all.length ≤ 8) (aa : Option Addr) (ac V D : Nat) (w : World) (hA : HasI w (.slice aa all.length ac) (natI all))
    (hF : ∀ row v W, Below w.heap.size w W → row.Nodup → row.length ≤ 8 → HasI W v (natI row) → Calls Tryd.prog 40 #[v, .pointer (some ⟨V, 0, none⟩), .pointer (some ⟨D, 0, none⟩)] W fun e w' => e = .returned (.bool (F row)) ∧ Below W.heap.size W w') :
    Calls Tryd.prog 39 #[.slice aa all.length ac, .func (Fn.func 40) #[] #[.pointer (some ⟨V, 0, none⟩), .pointer (some ⟨D, 0, none⟩)]] w fun e w' => FoTold F all w e w' := by
  have HT0 : Hid (TrAt w (.slice aa all.length ac) (.func (Fn.func 40) #[] #[.pointer (some ⟨V, 0, none⟩), .pointer (some ⟨D, 0, none⟩)]) ((((w.alloc (.cells #[.slice aa all.length ac] 29)).alloc (.cells #[.func (Fn.func 40) #[] #[.pointer (some ⟨V, 0, none⟩), .pointer (some ⟨D, 0, none⟩)]] 85)).alloc (.cells #[.slice none 0 0] 29)).alloc (.cells #[.func (Fn.func 60) #[] #[.pointer (some ⟨w.heap.size + 2, 0, none⟩), .pointer (some ⟨w.heap.size, 0, none⟩), .pointer (some ⟨w.heap.size + 1, 0, none⟩), .pointer (some ⟨w.heap.size + 3, 0, none⟩)]] 51)) []) := by
    obtain ⟨W1, h1⟩ : ∃ W1, W1 = w.alloc (.cells #[.slice aa all.length ac] 29) := ⟨_, rfl⟩
    obtain ⟨W2, h2⟩ : ∃ W2, W2 = W1.alloc (.cells #[.func (Fn.func 40) #[] #[.pointer (some ⟨V, 0, none⟩), .pointer (some ⟨D, 0, none⟩)]] 85) := ⟨_, rfl⟩
    obtain ⟨W3, h3⟩ : ∃ W3, W3 = W2.alloc (.cells #[.slice none 0 0] 29) := ⟨_, rfl⟩
    obtain ⟨O4, hO⟩ : ∃ O4 : Obj, O4 = .cells #[.func (Fn.func 60) #[] #[.pointer (some ⟨w.heap.size + 2, 0, none⟩), .pointer (some ⟨w.heap.size, 0, none⟩), .pointer (some ⟨w.heap.size + 1, 0, none⟩), .pointer (some ⟨w.heap.size + 3, 0, none⟩)]] 51 := ⟨_, rfl⟩
    have s1 : W1.heap.size = w.heap.size + 1 := by rw [h1]; simp
    have s2 : W2.heap.size = w.heap.size + 2 := by rw [h2, World.size_alloc, s1]
    have s3 : W3.heap.size = w.heap.size + 3 := by rw [h3, World.size_alloc, s2]
    have b1 : W1.heap[w.heap.size]? = some (.cells #[.slice aa all.length ac] 29 (0, 0)) := by rw [h1]; exact heap_alloc_new w _
    have b2 : W2.heap[w.heap.size + 1]? = some (.cells #[.func (Fn.func 40) #[] #[.pointer (some ⟨V, 0, none⟩), .pointer (some ⟨D, 0, none⟩)]] 85 (0, 0)) := by rw [h2, ← s1]; exact heap_alloc_new W1 _
    have b3 : W3.heap[w.heap.size + 2]? = some (.cells #[.slice none 0 0] 29 (0, 0)) := by rw [h3, ← s2]; exact heap_alloc_new W2 _
    have b4 := heap_alloc_new W3 O4
    rw [s3] at b4
    have hb : Below w.heap.size w (W3.alloc O4) := by
      have := belA (belA (belA (belA (Below.refl w.heap.size w) (.cells #[.slice aa all.length ac] 29)) (.cells #[.func (Fn.func 40) #[] #[.pointer (some ⟨V, 0, none⟩), .pointer (some ⟨D, 0, none⟩)]] 85)) (.cells #[.slice none 0 0] 29)) O4
      rw [← h1, ← h2, ← h3] at this
      exact this
    rw [← h1, ← h2, ← h3, ← hO]
    have k1 : (W3.alloc O4).heap[w.heap.size]? = some (.cells #[.slice aa all.length ac] 29 (0, 0)) := by
      rw [Below.heap_alloc W3 O4 w.heap.size (by omega), h3, Below.heap_alloc W2 _ w.heap.size (by omega), h2, Below.heap_alloc W1 _ w.heap.size (by omega)]; exact b1
    have k2 : (W3.alloc O4).heap[w.heap.size + 1]? = some (.cells #[.func (Fn.func 40) #[] #[.pointer (some ⟨V, 0, none⟩), .pointer (some ⟨D, 0, none⟩)]] 85 (0, 0)) := by
      rw [Below.heap_alloc W3 O4 (w.heap.size + 1) (by omega), h3, Below.heap_alloc W2 _ (w.heap.size + 1) (by omega)]; exact b2
    have k3 : (W3.alloc O4).heap[w.heap.size + 2]? = some (.cells #[.slice none 0 0] 29 (0, 0)) := by
      rw [Below.heap_alloc W3 O4 (w.heap.size + 2) (by omega)]; exact b3
    subst hO
    exact ⟨⟨hb, cell_of_row _ _ _ _ 29 _ k1, cell_of_row _ _ _ _ 85 _ k2, ⟨_, _, k3⟩, ⟨_, cell_of_row _ _ _ _ 29 _ k3⟩, cell_of_row _ _ _ _ 51 _ b4⟩, _, cell_of_row _ _ _ _ 29 _ k3, rowAt_nil _ _⟩
  have HCl := hideIt (fun W h => try_any F all hal aa ac V D w hA hF all.length [] W (by simp) List.nodup_nil h)
  clear hA hF
  unfold TrTold at HCl
  unfold FoTold
  have kk := HT0.out.bx.tc
  go_enter Tryd.func39, Tryd.ntmps39
  go_upto_region 3 with fail
  generalize (((w.alloc _).alloc _).alloc _).alloc _ = W at HT0 kk ⊢
  have HC := hideIt (HCl.out W HT0.out)
  clear HCl
  go_wp2_with fail
  refine HC.out.mono ?_
  clear HC kk
  rintro e w2 (⟨rfl, hno, hc⟩ | ⟨c, rfl, hsome, hc⟩)
  · obtain ⟨v, hv, hr⟩ := hc.rw_
    obtain ⟨va, vc, rfl⟩ := hr.slice
    have z := hc.bx.fz
    have HL := hideIt (hc.bx.lay hr)
    have HN := hideIt hno
    have HLd := hideIt (load29 (w := w2.setCell ⟨w.heap.size + 2, 0, none⟩ (.slice va (natI []).length vc)) (World.cell?_setCell_same _ _ _ hv) ⟨_, _, _, rfl⟩)
    clear hc hr hno
    go_wp2
    refine bodyPost_ret (results_two rfl _ _ _ _ rfl HLd.out) rfl ?_
    exact ⟨_, false, rfl, .inl ⟨rfl, HN.out⟩, HL.out.bx.bel⟩
  · obtain ⟨v, hv, hr⟩ := hc.rw_
    obtain ⟨va, vc, rfl⟩ := hr.slice
    have z := hc.bx.fz
    have HL := hideIt (hc.bx.lay hr)
    have HN := hideIt hsome
    have HLd := hideIt (load29 (w := w2.setCell ⟨w.heap.size + 2, 0, none⟩ (.slice va (natI c).length vc)) (World.cell?_setCell_same _ _ _ hv) ⟨_, _, _, rfl⟩)
    clear hc hr hsome
    go_wp2
    refine bodyPost_ret (results_two rfl _ _ _ _ rfl HLd.out) rfl ?_
    refine ⟨_, true, rfl, .inr ⟨rfl, c, HN.out, ?_⟩, HL.out.bx.bel⟩
    obtain ⟨v', hv', hr'⟩ := HL.out.rw_
    have e := (World.cell?_setCell_same w2 ⟨w.heap.size + 2, 0, none⟩ (.slice va (natI c).length vc) hv).symm.trans hv'
    have e' := Option.some.inj e
    subst e'
    exact hr'.base (Nat.le_add_right _ _)
end Go.Proofs.YtibdchahallbjabDoor
