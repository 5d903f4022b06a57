/-
  last, versions and what versions' iterator gives, walked.
  find and isLate, walked: both range over versions.
  isLate, walked: it ranges over versions within a loop.
-/
import Derived.Test.YtaopigjhdkdklaaDoorRfBZ
import Derived.Test.YtaopigjhdkdklaaDoorPwAZ
import Derived.Test.YtaopigjhdkdklaaDoorDbMZ
import Derived.Test.YtaopigjhdkdklaaDoorIaW
import Derived.Test.YtaopigjhdkdklaaDoorDcW
namespace Go.Proofs.YtaopigjhdkdklaaDoor
open Go.RowKit Go.Shelf

section
variable {w0 W : World} {k : PrK} {c : Bool} {n : Nat} {st : MvS}
theorem PrB.writes (h : PrB w0 W k c n st) (hl : ∀ t, (st.ops t).length ≤ 60) {t : Nat} (ht : t < n) (key : Int) (Z : World) (hZ : Below W.heap.size W Z) :
    Calls Tryd.prog 54 #[.pointer (some ⟨k.T, t * 4, none⟩), .int .i64 key] Z fun e w' => e = .returned (.int .i64 (wrN (st.ops t) key : Nat)) ∧ Below Z.heap.size Z w' := by
  obtain ⟨a, cap, e, _, hq⟩ := h.opq ht
  have c0 := (h.tx t ht).1
  rw [e] at c0
  exact writes_any (st.ops t) key k.T (t * 4) a cap Z (by have := hl t; unfold maxLen; omega) ((hZ.cell (p := ⟨k.T, t * 4, none⟩) h.ltT).trans c0) (hq.below hZ)
theorem set4 {W : World} {g : Nat} {a b c d p q r s : Value} {t : TypeId} (h : W.heap[g]? = some (.cells #[a, b, c, d] t (0, 0))) : ((((W.setCell ⟨g, 0, none⟩ p).setCell ⟨g, 1, none⟩ q).setCell ⟨g, 2, none⟩ r).setCell ⟨g, 3, none⟩ s).heap[g]? = some (.cells #[p, q, r, s] t (0, 0)) :=
  heap_setCell_same _ g 3 _ t _ (heap_setCell_same _ g 2 _ t _ (heap_setCell_same _ g 1 _ t _ (heap_setCell_same _ g 0 _ t _ h)))
/-- The read of the last version that one wrote. -/
def lastO (st : MvS) (t : Nat) (key : Int) : Value := .agg #[.bool false, .int .i64 key, .int .i64 (t : Int), .int .i64 ((wrN (st.ops t) key : Int) - 1)]
theorem wrN_le (l : List IOp) (key : Int) : wrN l key ≤ l.length := List.countP_le_length

set_option maxRecDepth 100000 in
set_option maxHeartbeats 1000000 in
theorem last_any (h : PrB w0 W k c n st) (hl : ∀ t, (st.ops t).length ≤ 60) {t : Nat} (ht : t < n) (key : Int) (Z : World) (hZ : Below W.heap.size W Z) :
    Calls Tryd.prog 55 #[.pointer (some ⟨k.B, 0, none⟩), .int .i64 (t : Int), .int .i64 key] Z fun e w' => e = .returned (lastO st t key) ∧ Below Z.heap.size Z w' := by
  have hZ1 : Below W.heap.size W (Z.alloc (.cells #[.bool false, .int .i64 0, .int .i64 0, .int .i64 0] 84)) := belA hZ _
  have HWr := hideIt (h.writes hl ht key _ hZ1)
  have c2 := (hZ1.cell (p := ⟨k.B, 2, none⟩) h.lt).trans h.cells.2.2.1
  have hrb := heap_alloc_new Z (.cells #[.bool false, .int .i64 0, .int .i64 0, .int .i64 0] 84)
  have HB := hideIt (belA (Below.refl Z.heap.size Z) (.cells #[.bool false, .int .i64 0, .int .i64 0, .int .i64 0] 84))
  have ht' : (t : Int) < (n : Int) := by omega
  have hle := wrN_le (st.ops t) key
  have hl60 := hl t
  unfold lastO
  generalize wrN (st.ops t) key = x at *
  have hwr : IntKind.i64.wrap ((x : Int) - 1) = (x : Int) - 1 := by rw [IntKind.wrap_i64]; omega
  clear h hZ hl
  go_enter Tryd.func55, Tryd.ntmps55
  go_wp2_with fail
  refine HWr.out.mono ?_
  rintro e W1 ⟨rfl, hb⟩
  have hrb1 := (hb.block Z.heap.size (by simp)).trans hrb
  have HB1 := hideIt (belJ HB.out hb)
  clear HWr hb hrb c2
  have x0 : W1.cell? ⟨Z.heap.size, 0, none⟩ = some (.bool false) := by rw [cell_of_row _ _ _ _ 84 _ hrb1]; rfl
  have x1 : W1.cell? ⟨Z.heap.size, 1, none⟩ = some (.int .i64 0) := by rw [cell_of_row _ _ _ _ 84 _ hrb1]; rfl
  have x2 : W1.cell? ⟨Z.heap.size, 2, none⟩ = some (.int .i64 0) := by rw [cell_of_row _ _ _ _ 84 _ hrb1]; rfl
  have x3 : W1.cell? ⟨Z.heap.size, 3, none⟩ = some (.int .i64 0) := by rw [cell_of_row _ _ _ _ 84 _ hrb1]; rfl
  have f0 := fun i => frozen_of_row W1 Z.heap.size i _ 84 hrb1
  have HG := hideIt (set4 (p := .bool false) (q := .int .i64 key) (r := .int .i64 (t : Int)) (s := .int .i64 ((x : Int) - 1)) hrb1)
  go_wp2
  refine bodyPost_ret (results_cell_row rfl _ _ Z.heap.size 84 _ (0, 0) _ rfl HG.out Tryd.underlying84 rfl (by kernel_rfl)) rfl ?_
  exact ⟨rfl, (((HB1.out.setCell (p := ⟨Z.heap.size, 0, none⟩) (Nat.le_refl _) _).setCell (p := ⟨Z.heap.size, 1, none⟩) (Nat.le_refl _) _).setCell (p := ⟨Z.heap.size, 2, none⟩) (Nat.le_refl _) _).setCell (p := ⟨Z.heap.size, 3, none⟩) (Nat.le_refl _) _⟩

theorem versions_any (p : Option Addr) (key : Int) (w : World) : Calls Tryd.prog 56 #[.pointer p, .int .i64 key] w fun e w' => e = .returned (.func (.func 73) #[] #[.pointer (some ⟨w.heap.size, 0, none⟩), .pointer (some ⟨w.heap.size + 1, 0, none⟩)]) ∧ w' = (w.alloc (.cells #[.pointer p] 23)).alloc (.cells #[.int .i64 key] 3) := by
  go_enter Tryd.func56, Tryd.ntmps56
  go_wp2
  go_ret
  exact ⟨by simp, rfl⟩
attribute [local go_sem] Oper.semAt_some
/-- What the iterator gives. -/
def encV (st : MvS) (key : Nat) (x : Ix (st.ord key)) : Array Value := #[.int .i64 (st.en ((st.ord key)[x.1]'x.2)), lastO st ((st.ord key)[x.1]'x.2) key]

set_option maxRecDepth 100000 in
set_option maxHeartbeats 8000000 in
theorem vers_stops (h : PrB w0 W k c n st) (hl : ∀ t, (st.ops t).length ≤ 60) {key : Nat} (hk8 : key < 8) (hm : ∀ x ∈ st.ord key, x < n) (ho : (st.ord key).length ≤ 999) (m : Nat) (Bb Bk n₀ : Nat) (h0 : ∀ b, k.own n b → b < n₀) (hn0 : n₀ ≤ W.heap.size) (hBb : Bb < W.heap.size) (hBk : Bk < W.heap.size)
    (cb : W.cell? ⟨Bb, 0, none⟩ = some (.pointer (some ⟨k.B, 0, none⟩))) (ck : W.cell? ⟨Bk, 0, none⟩ = some (.int .i64 (key : Int))) :
    SeqB Fence.wide m Tryd.prog 73 #[.pointer (some ⟨Bb, 0, none⟩), .pointer (some ⟨Bk, 0, none⟩)] (encV st key) (fun b => b < n₀ ∨ b = Bb ∨ b = Bk) (fun xs => xs.map (fun x => x.1) = downL (st.ord key).length 0) (fun pre => pre.map (fun x => x.1) <+: downL (st.ord key).length 0) (st.ord key).length W := by
  intro y J Jx V hV hJ hJx hY hJ0
  have hP := h.below hV
  have HP := hideIt hP
  have dB := (hV.cell (p := ⟨Bb, 0, none⟩) hBb).trans cb
  have dK := (hV.cell (p := ⟨Bk, 0, none⟩) hBk).trans ck
  have hnV : n₀ ≤ V.heap.size := Nat.le_trans hn0 hV.size
  have hBbV : Bb < V.heap.size := Nat.lt_of_lt_of_le hBb hV.size
  have hBkV : Bk < V.heap.size := Nat.lt_of_lt_of_le hBk hV.size
  have HY := hideIt hY
  have HJ := hideIt hJ
  have HJx := hideIt hJx
  have HJ0 := hideIt hJ0
  have HL := hideIt hl
  have HM := hideIt hm
  have HO0 := hideIt h0
  have hkI : (key : Int) < 8 := by omega
  obtain ⟨va, vc, ev, hvc, hvq⟩ := num_hasI (hP.rw_ key hk8)
  rw [List.length_map] at ev hvc
  have dR := hP.cells.2.2.2 key hk8
  rw [ev] at dR
  clear h hY hJ hJx hJ0 hl hm cb ck hP h0
  have HA : Hid (∀ Z, Below V.heap.size V Z → Z.cell? ⟨Bb, 0, none⟩ = some (.pointer (some ⟨k.B, 0, none⟩)) ∧ Z.cell? ⟨Bk, 0, none⟩ = some (.int .i64 (key : Int)) ∧ Z.cell? ⟨k.B, 3 + key, none⟩ = some (.slice va (st.ord key).length vc)) := fun Z hZ => ⟨(hZ.cell (p := ⟨Bb, 0, none⟩) hBbV).trans dB, (hZ.cell (p := ⟨Bk, 0, none⟩) hBkV).trans dK, (hZ.cell (p := ⟨k.B, 3 + key, none⟩) HP.out.lt).trans dR⟩
  show CallsIn Fence.wide m Tryd.prog 73 #[.func (.yield y) #[] #[], .pointer (some ⟨Bb, 0, none⟩), .pointer (some ⟨Bk, 0, none⟩)] V _
  refine (callsIn_wide (n := 9)).1 ?_ |> fun hh => callsIn_wide.2 hh
  refine callsIn_of_wp_marks Tryd.func73 rfl trivial ?_ rfl
  simp only [Tryd.ntmps73, List.size_toArray, List.length_cons, List.length_nil, Nat.reduceAdd, Nat.reduceSub, Array.replicate_succ, Array.replicate_zero, List.push_toArray, List.append_toArray, List.nil_append, List.cons_append]
  rw [wpIn_wide]
  refine wp_mono (Q := noPan (bodyPostM Fence.wide 9 Tryd.prog Tryd.f73 (fun e W' => (∃ v, e = .returned v) ∧ ((∃ xs : List (Ix (st.ord key)), xs.map (fun x => x.1) = downL (st.ord key).length 0 ∧ J xs W') ∨ (∃ pre : List (Ix (st.ord key)), pre.map (fun x => x.1) <+: downL (st.ord key).length 0 ∧ Jx pre W'))))) ?_ noPan_spec
  go_wp2_with fail
  have hBel1 : Below V.heap.size V (V.alloc (.cells #[.func (.yield y) #[] #[]] 109)) := belA (Below.refl _ _) _
  have hyc : (V.alloc (.cells #[.func (.yield y) #[] #[]] 109)).cell? ⟨V.heap.size, 0, none⟩ = some (.func (.yield y) #[] #[]) := by simp
  generalize hV1 : V.alloc (.cells #[.func (.yield y) #[] #[]] 109) = V1 at hBel1 hyc ⊢
  have hV1s : V1.heap.size = V.heap.size + 1 := by rw [← hV1]; simp
  clear hV1
  have HB1 := hideIt hBel1
  have HYC := hideIt hyc
  clear hBel1 hyc
  refine wp_region_held_drew (S := (fun w' => Below V1.heap.size V1 w')) (by kernel_rfl) (Below.refl _ _).drew (fun hHeld => ?_)
  have HAX : Hid (∀ Z, Below V1.heap.size V1 Z → Z.cell? ⟨Bb, 0, none⟩ = some (.pointer (some ⟨k.B, 0, none⟩)) ∧ Z.cell? ⟨Bk, 0, none⟩ = some (.int .i64 (key : Int)) ∧ Z.cell? ⟨k.B, 3 + key, none⟩ = some (.slice va (st.ord key).length vc)) := fun Z hZ => HA.out Z (belJ HB1.out hZ)
  refine wpAnyH_take (i := 0) (v := ?_) rfl (by kernel_rfl) (by kernel_rfl) (by kernel_rfl) (fun _ _ _ h => h) (Or.inl ⟨by rfl, ?_⟩) (by assumption) ?_
  rotate_left 1
  · intro wz sb
    obtain ⟨y0, y1, y2⟩ := HAX.out wz sb
    go_simp
    all_goals with_reducible rfl
  simp only [Act.put, List.setIfInBounds_toArray, List.set_cons_zero, List.set_cons_succ, List.getElem_toArray, List.getElem_cons_zero]
  refine wpAnyH_take (i := 1) (v := ?_) rfl (by kernel_rfl) (by kernel_rfl) (by kernel_rfl) (fun _ _ _ h => h) (Or.inl ⟨by rfl, ?_⟩) (by assumption) ?_
  rotate_left 1
  · intro wz sb
    obtain ⟨y0, y1, y2⟩ := HAX.out wz sb
    go_simp
    all_goals with_reducible rfl
  simp only [Act.put, List.setIfInBounds_toArray, List.set_cons_zero, List.set_cons_succ, List.getElem_toArray, List.getElem_cons_zero, List.getElem_cons_succ]
  refine wpAnyH_take (i := 2) (v := ?_) rfl (by kernel_rfl) (by kernel_rfl) (by kernel_rfl) (fun _ _ _ h => h) (Or.inl ⟨by rfl, ?_⟩) (by assumption) ?_
  rotate_left 1
  · intro wz sb
    obtain ⟨y0, y1, y2⟩ := HAX.out wz sb
    go_simp
    all_goals with_reducible rfl
  simp only [Act.put, List.setIfInBounds_toArray, List.set_cons_zero, List.set_cons_succ, List.getElem_toArray, List.getElem_cons_zero, List.getElem_cons_succ]
  refine wpAnyH_take (i := 3) (v := ?_) rfl (by kernel_rfl) (by kernel_rfl) (by kernel_rfl) (fun _ _ _ h => h) (Or.inl ⟨by rfl, ?_⟩) (by assumption) ?_
  rotate_left 1
  · intro wz sb
    obtain ⟨y0, y1, y2⟩ := HAX.out wz sb
    go_simp
    all_goals with_reducible rfl
  simp only [Act.put, List.setIfInBounds_toArray, List.set_cons_zero, List.set_cons_succ, List.getElem_toArray, List.getElem_cons_zero, List.getElem_cons_succ]
  refine wpAnyH_take (i := 4) (v := ?_) rfl (by kernel_rfl) (by kernel_rfl) (by kernel_rfl) (fun _ _ _ h => h) (Or.inl ⟨by rfl, ?_⟩) (by assumption) ?_
  rotate_left 1
  · intro wz sb
    obtain ⟨y0, y1, y2⟩ := HAX.out wz sb
    go_simp
    all_goals with_reducible rfl
  simp only [Act.put, List.setIfInBounds_toArray, List.set_cons_zero, List.set_cons_succ, List.getElem_toArray, List.getElem_cons_zero, List.getElem_cons_succ]
  refine wpAnyH_take (i := 5) (v := ?_) rfl (by kernel_rfl) (by kernel_rfl) (by kernel_rfl) (fun _ _ _ h => h) (Or.inl ⟨by rfl, ?_⟩) (by assumption) ?_
  rotate_left 1
  · intro wz sb
    obtain ⟨y0, y1, y2⟩ := HAX.out wz sb
    go_simp
    all_goals with_reducible rfl
  simp only [Act.put, List.setIfInBounds_toArray, List.set_cons_zero, List.set_cons_succ, List.getElem_toArray, List.getElem_cons_zero, List.getElem_cons_succ]
  generalize V1.drew = V2 at hHeld ⊢
  refine wpAnyH_ready (rs := [6]) (by kernel_rfl) (by simp) (AllReadyH.cons rfl (fun K hK => ?_) AllReadyH.nil)
  go_simp
  refine (backward_any va (st.ord key).length vc V2).mono ?_
  rintro e V3 ⟨rfl, hV3⟩
  have hV2s : V1.heap.size ≤ V2.heap.size := hHeld.size
  have hb23 : Below V2.heap.size V2 V3 := by rw [hV3]; exact belA (Below.refl _ _) _
  have hbx : V3.cell? ⟨V2.heap.size, 0, none⟩ = some (.slice va (st.ord key).length vc) := by rw [hV3]; simp
  have hV3s : V3.heap.size = V2.heap.size + 1 := by rw [hV3]; simp
  clear hV3
  refine hK.out _ _ ?_ (fun hHeld => ?_)
  · exact belJ hHeld hb23
  clear hK K
  refine wpAnyH_done (by kernel_rfl) ?_ _
  have hB3 := belJ HB1.out hHeld
  have HB3 := hideIt hB3
  have HYC3 : Hid (V3.cell? ⟨V.heap.size, 0, none⟩ = some (.func (.yield y) #[] #[])) := (hHeld.cell (p := ⟨V.heap.size, 0, none⟩) (by show V.heap.size < V1.heap.size; omega)).trans HYC.out
  have HVQ : Hid (∀ i (hi : i < (st.ord key).length), ∃ g off, va = some ⟨g, off, none⟩ ∧ (g < n₀ ∨ g = V2.heap.size) ∧ g < V3.heap.size ∧ V3.cell? ⟨g, off + i, none⟩ = some (.int .i64 ((st.ord key)[i] : Nat))) := fun i hi => by
    obtain ⟨g, off, e, hc⟩ := hvq i (by rw [List.length_map]; exact hi)
    have hg0 : g < n₀ := HO0.out g (.inr (.inr (.inr ⟨key, hk8, by rw [ev, e]; rfl⟩)))
    have hgV : g < V.heap.size := by omega
    refine ⟨g, off, e, .inl hg0, by have := hB3.size; omega, ((hB3.cell (p := ⟨g, off + i, none⟩) hgV).trans hc).trans ?_⟩
    rw [List.getElem_map]
  have hbs := back_stops (st.ord key) (by omega) 8 (by omega) V2.heap.size va vc (fun b => b < n₀ ∨ b = V2.heap.size) V3 (.inr rfl) (by omega) hbx HVQ.out
  have HBS := hideIt hbs
  clear hbs hbx hB3 HYC HVQ hvq dR dB dK hHeld HAX
  go_wp2_with fail
  rw [← wpIn_wide (n := 9)]
  refine wpIn_rangeFunc_B rfl (by omega) (gf := 86) (lb := #[.pointer (some ⟨V2.heap.size, 0, none⟩)]) rfl trivial (enters_of (P := Tryd.prog) Tryd.func86 (by kernel_rfl) rfl) HBS.out (fun b hb => by
      rcases hb with hb | hb <;> omega) (Below.refl _ _) (fun _ => rfl)
    (fun pre Z => J pre Z ∧ KeptX (fun b => b < n₀ ∨ b = Bb ∨ b = Bk) V.heap.size V3 Z)
    (fun cd pre Z => cd = .ret ∧ Jx pre Z)
    (fun s A C hs hbl => ⟨HJ.out s A C hs.1 (hbl.mono (by omega)), ⟨hbl.os.trans hs.2.os, hbl.tape.trans hs.2.tape, hbl.output.trans hs.2.output, Nat.le_trans hs.2.size hbl.size, fun b hb hx => (hbl.block b hb).trans (hs.2.block b hb hx)⟩⟩)
    (fun cd s A C hs hbl => ⟨hs.1, HJx.out s A C hs.2 (hbl.mono (by omega))⟩)
    ⟨HJ.out _ _ _ HJ0.out HB3.out, KeptX.refl _⟩
    (fun x => { tmps := #[.func (.yield y) #[] #[], .pointer (some ⟨Bb, 0, none⟩), .pointer (some ⟨Bk, 0, none⟩), .pointer (some ⟨V.heap.size, 0, none⟩), undef, .int .i64 (((st.ord key)[x.1]'x.2 : Nat) : Int), .pointer (some ⟨k.B, 0, none⟩), .int .i64 (key : Int), .pointer (some ⟨k.B, 0, none⟩), .pointer (some ⟨k.B, 3, none⟩), .pointer (some ⟨k.B, 3 + key, none⟩), .slice va (st.ord key).length vc, .func (.func 86) #[] #[.pointer (some ⟨V2.heap.size, 0, none⟩)], .int .i64 (x.1 : Int), .int .i64 (((st.ord key)[x.1]'x.2 : Nat) : Int), undef, undef, undef, undef, undef, undef, undef, undef, undef, undef, undef, undef, undef, undef, undef], defers := [] }) ?assign ?body ?done ?stop
  case assign =>
    intro l x Z K hK
    unfold encB
    gi_wp2
    exact hK
  case body =>
    rintro l pre x Z ⟨hJs, hkx⟩ hsz hlt
    obtain ⟨t, ht⟩ : ∃ t, (st.ord key)[x.1]'x.2 = t := ⟨_, rfl⟩
    have htn : t < n := HM.out t (by rw [← ht]; exact List.getElem_mem _)
    have hbZ : Below n₀ V Z := hkx.to (fun b hb => .inl hb) (HB3.out.mono hnV) hnV
    have hPZ : PrB w0 Z k c n st := HP.out.keep (by
        have hw : w0.heap.size ≤ n₀ := Nat.le_trans HP.out.lo.1 (Nat.le_of_lt (HO0.out k.B (.inl rfl)))
        exact (HP.out.bel).trans (hbZ.mono hw)) (fun b hb => hbZ.block b (HO0.out b hb))
    have HPZ := hideIt hPZ
    have qB : Z.cell? ⟨Bb, 0, none⟩ = some (.pointer (some ⟨k.B, 0, none⟩)) := (World.cell?_of_block (a := ⟨Bb, 0, none⟩) (hkx.block Bb (by have := HB3.out.size; omega) (.inl (.inr (.inl rfl))))).trans (HA.out V3 HB3.out).1
    have qK : Z.cell? ⟨Bk, 0, none⟩ = some (.int .i64 (key : Int)) := (World.cell?_of_block (a := ⟨Bk, 0, none⟩) (hkx.block Bk (by have := HB3.out.size; omega) (.inl (.inr (.inr rfl))))).trans (HA.out V3 HB3.out).2.1
    have qY : Z.cell? ⟨V.heap.size, 0, none⟩ = some (.func (.yield y) #[] #[]) := (World.cell?_of_block (a := ⟨V.heap.size, 0, none⟩) (hkx.block V.heap.size (by omega) (.inr (Nat.le_refl _)))).trans HYC3.out
    have lB := World.block_lt_of_cell? Z _ qB
    have lK := World.block_lt_of_cell? Z _ qK
    have lY := World.block_lt_of_cell? Z _ qY
    have HX : Hid (∀ Y, Below Z.heap.size Z Y → Y.cell? ⟨Bb, 0, none⟩ = some (.pointer (some ⟨k.B, 0, none⟩)) ∧ Y.cell? ⟨Bk, 0, none⟩ = some (.int .i64 (key : Int)) ∧ Y.cell? ⟨V.heap.size, 0, none⟩ = some (.func (.yield y) #[] #[]) ∧ Y.cell? ⟨k.B, 2, none⟩ = some (.slice (some ⟨k.T, 0, none⟩) n n) ∧ Y.cell? ⟨k.T, t * 4 + 2, none⟩ = some (.int .i64 (st.en t))) := fun Y hY => ⟨(hY.cell (p := ⟨Bb, 0, none⟩) lB).trans qB, (hY.cell (p := ⟨Bk, 0, none⟩) lK).trans qK, (hY.cell (p := ⟨V.heap.size, 0, none⟩) lY).trans qY, (hY.cell (p := ⟨k.B, 2, none⟩) hPZ.lt).trans hPZ.cells.2.2.1, (hY.cell (p := ⟨k.T, t * 4 + 2, none⟩) hPZ.ltT).trans (hPZ.tx t htn).2.2.1⟩
    have HKx := hideIt hkx
    have HJs := hideIt hJs
    have htI : (t : Int) < (n : Int) := by omega
    rw [ht]
    clear hkx hJs hPZ hbZ qB qK qY lB lK lY HBS HA HB1
    gi_wp2
    refine wpIn_round_Y [13] (fun w' => Below Z.heap.size Z w') (by kernel_rfl) (by kernel_rfl) (Below.refl _ _).drew (fun hHeld => ?_)
    refine wpAnyY_take [13, 14] (i := 0) (v := ?_) rfl (by kernel_rfl) (by kernel_rfl) (by kernel_rfl) (by kernel_rfl) (fun _ _ _ h => h) (Or.inl ⟨by rfl, ?_⟩) (by assumption) ?_
    rotate_left 1
    · intro wz sb
      obtain ⟨y0, y1, y2, y3, y4⟩ := HX.out wz sb
      go_simp
      all_goals with_reducible rfl
    simp only [Act.put, List.setIfInBounds_toArray, List.set_cons_zero, List.set_cons_succ, List.getElem_toArray, List.getElem_cons_zero]
    refine wpAnyY_take [2, 3, 4, 6, 7, 8, 13, 14] (i := 1) (v := ?_) rfl (by kernel_rfl) (by kernel_rfl) (by kernel_rfl) (by kernel_rfl) (fun _ _ _ h => h) (Or.inl ⟨by rfl, ?_⟩) (by assumption) ?_
    rotate_left 1
    · intro wz sb
      obtain ⟨y0, y1, y2, y3, y4⟩ := HX.out wz sb
      go_simp
      all_goals with_reducible rfl
    simp only [Act.put, List.setIfInBounds_toArray, List.set_cons_zero, List.set_cons_succ, List.getElem_toArray, List.getElem_cons_zero, List.getElem_cons_succ]
    refine wpAnyY_take [3, 4, 6, 7, 8, 13, 14] (i := 2) (v := ?_) rfl (by kernel_rfl) (by kernel_rfl) (by kernel_rfl) (by kernel_rfl) (fun _ _ _ h => h) (Or.inl ⟨by rfl, ?_⟩) (by assumption) ?_
    rotate_left 1
    · intro wz sb
      obtain ⟨y0, y1, y2, y3, y4⟩ := HX.out wz sb
      go_simp
      all_goals with_reducible rfl
    simp only [Act.put, List.setIfInBounds_toArray, List.set_cons_zero, List.set_cons_succ, List.getElem_toArray, List.getElem_cons_zero, List.getElem_cons_succ]
    refine wpAnyY_take [4, 6, 7, 8, 13, 14] (i := 3) (v := ?_) rfl (by kernel_rfl) (by kernel_rfl) (by kernel_rfl) (by kernel_rfl) (fun _ _ _ h => h) (Or.inl ⟨by rfl, ?_⟩) (by assumption) ?_
    rotate_left 1
    · intro wz sb
      obtain ⟨y0, y1, y2, y3, y4⟩ := HX.out wz sb
      go_simp
      all_goals with_reducible rfl
    simp only [Act.put, List.setIfInBounds_toArray, List.set_cons_zero, List.set_cons_succ, List.getElem_toArray, List.getElem_cons_zero, List.getElem_cons_succ]
    refine wpAnyY_take [6, 7, 8, 13, 14] (i := 4) (v := ?_) rfl (by kernel_rfl) (by kernel_rfl) (by kernel_rfl) (by kernel_rfl) (fun _ _ _ h => h) (Or.inl ⟨by rfl, ?_⟩) (by assumption) ?_
    rotate_left 1
    · intro wz sb
      obtain ⟨y0, y1, y2, y3, y4⟩ := HX.out wz sb
      go_simp
      all_goals with_reducible rfl
    simp only [Act.put, List.setIfInBounds_toArray, List.set_cons_zero, List.set_cons_succ, List.getElem_toArray, List.getElem_cons_zero, List.getElem_cons_succ]
    refine wpAnyY_take [6, 7, 8, 13, 14] (i := 5) (v := ?_) rfl (by kernel_rfl) (by kernel_rfl) (by kernel_rfl) (by kernel_rfl) (fun _ _ _ h => h) (Or.inl ⟨by rfl, ?_⟩) (by assumption) ?_
    rotate_left 1
    · intro wz sb
      obtain ⟨y0, y1, y2, y3, y4⟩ := HX.out wz sb
      go_simp
      all_goals with_reducible rfl
    simp only [Act.put, List.setIfInBounds_toArray, List.set_cons_zero, List.set_cons_succ, List.getElem_toArray, List.getElem_cons_zero, List.getElem_cons_succ]
    refine wpAnyY_take [7, 8, 13, 14] (i := 6) (v := ?_) rfl (by kernel_rfl) (by kernel_rfl) (by kernel_rfl) (by kernel_rfl) (fun _ _ _ h => h) (Or.inl ⟨by rfl, ?_⟩) (by assumption) ?_
    rotate_left 1
    · intro wz sb
      obtain ⟨y0, y1, y2, y3, y4⟩ := HX.out wz sb
      go_simp
      all_goals with_reducible rfl
    simp only [Act.put, List.setIfInBounds_toArray, List.set_cons_zero, List.set_cons_succ, List.getElem_toArray, List.getElem_cons_zero, List.getElem_cons_succ]
    refine wpAnyY_take [8, 13, 14] (i := 7) (v := ?_) rfl (by kernel_rfl) (by kernel_rfl) (by kernel_rfl) (by kernel_rfl) (fun _ _ _ h => h) (Or.inl ⟨by rfl, ?_⟩) (by assumption) ?_
    rotate_left 1
    · intro wz sb
      obtain ⟨y0, y1, y2, y3, y4⟩ := HX.out wz sb
      go_simp
      all_goals with_reducible rfl
    simp only [Act.put, List.setIfInBounds_toArray, List.set_cons_zero, List.set_cons_succ, List.getElem_toArray, List.getElem_cons_zero, List.getElem_cons_succ]
    refine wpAnyY_take [13, 14] (i := 8) (v := ?_) rfl (by kernel_rfl) (by kernel_rfl) (by kernel_rfl) (by kernel_rfl) (fun _ _ _ h => h) (Or.inl ⟨by rfl, ?_⟩) (by assumption) ?_
    rotate_left 1
    · intro wz sb
      obtain ⟨y0, y1, y2, y3, y4⟩ := HX.out wz sb
      go_simp
      all_goals with_reducible rfl
    simp only [Act.put, List.setIfInBounds_toArray, List.set_cons_zero, List.set_cons_succ, List.getElem_toArray, List.getElem_cons_zero, List.getElem_cons_succ]
    refine wpAnyY_take [12, 13, 14] (i := 9) (v := ?_) rfl (by kernel_rfl) (by kernel_rfl) (by kernel_rfl) (by kernel_rfl) (fun _ _ _ h => h) (Or.inl ⟨by rfl, ?_⟩) (by assumption) ?_
    rotate_left 1
    · intro wz sb
      obtain ⟨y0, y1, y2, y3, y4⟩ := HX.out wz sb
      go_simp
      all_goals with_reducible rfl
    simp only [Act.put, List.setIfInBounds_toArray, List.set_cons_zero, List.set_cons_succ, List.getElem_toArray, List.getElem_cons_zero, List.getElem_cons_succ]
    refine wpAnyY_take [12, 13, 14] (i := 10) (v := ?_) rfl (by kernel_rfl) (by kernel_rfl) (by kernel_rfl) (by kernel_rfl) (fun _ _ _ h => h) (Or.inl ⟨by rfl, ?_⟩) (by assumption) ?_
    rotate_left 1
    · intro wz sb
      obtain ⟨y0, y1, y2, y3, y4⟩ := HX.out wz sb
      go_simp
      all_goals with_reducible rfl
    simp only [Act.put, List.setIfInBounds_toArray, List.set_cons_zero, List.set_cons_succ, List.getElem_toArray, List.getElem_cons_zero, List.getElem_cons_succ]
    refine wpAnyY_take [12, 13, 14] (i := 11) (v := ?_) rfl (by kernel_rfl) (by kernel_rfl) (by kernel_rfl) (by kernel_rfl) (fun _ _ _ h => h) (Or.inl ⟨by rfl, ?_⟩) (by assumption) ?_
    rotate_left 1
    · intro wz sb
      obtain ⟨y0, y1, y2, y3, y4⟩ := HX.out wz sb
      go_simp
      all_goals with_reducible rfl
    simp only [Act.put, List.setIfInBounds_toArray, List.set_cons_zero, List.set_cons_succ, List.getElem_toArray, List.getElem_cons_zero, List.getElem_cons_succ]
    generalize Z.drew = Z1 at hHeld ⊢
    refine wpAnyY_one (i := 12) (by kernel_rfl) rfl (by kernel_rfl) (fun K hK => ?_)
    go_simp
    refine (last_any HPZ.out HL.out htn (key : Int) Z1 hHeld).mono ?_
    rintro e Z2 ⟨rfl, hb2⟩
    have hB2 : Below Z.heap.size Z Z2 := belJ hHeld hb2
    refine hK.out _ _ hB2 ?_
    clear hK K hHeld hb2
    obtain ⟨fn, tmps, assign, body, hy, hR⟩ := HY.out pre x Z2 (HJ.out _ _ _ HJs.out (hB2.mono (by omega))) (by have := hB2.size; omega) hlt
    unfold encV at hy
    rw [ht] at hy
    have HR := hideIt (roundAny (m' := 9 - 1 - 1 - 1) rfl hR)
    clear hR
    refine wpAnyY_yield (i := 13) (by kernel_rfl) rfl (by kernel_rfl) (fun _ h => by cases h) (by rfl) (l := y) (f := fn) (tmps := tmps) (assign := assign) (body := body) ?he HR.out ?_
    case he =>
      go_simp
    rintro e Z3 ⟨hk3, hJ3⟩
    have HQ : Hid (KeptX (fun b => b < n₀ ∨ b = V2.heap.size) V3.heap.size Z Z3) := (KeptX.below hB2).trans (hk3.mono fun b hb => by
      rcases hb with (hb | hb) | hb
      · exact .inl (.inl hb)
      · exact .inr (by omega)
      · exact .inr (by omega))
    have HQ2 : Hid (KeptX (fun b => b < n₀ ∨ b = Bb ∨ b = Bk) V.heap.size V3 Z3) := HKx.out.trans ((KeptX.below hB2).trans hk3)
    rcases hJ3 with ⟨rfl, hJ3⟩ | ⟨rfl, hJ3⟩
    · have HJ3 := hideIt hJ3
      clear hJ3 hk3 HR hy HX
      refine ⟨_, rfl, ?_⟩
      refine wpAnyY_late (i := 14) (by kernel_rfl) rfl (by kernel_rfl) (by kernel_rfl) (fun K hK => ?_)
      go_simp
      refine hK.out _ _ ?_
      clear hK K
      refine wpAnyY_done (by kernel_rfl) ?_ _
      unfold noPO
      gi_wp2
      exact ⟨HQ.out, HJ3.out, HQ2.out⟩
    · have HJ3 := hideIt hJ3
      clear hJ3 hk3 HR hy HX
      refine ⟨_, rfl, ?_⟩
      refine wpAnyY_late (i := 14) (by kernel_rfl) rfl (by kernel_rfl) (by kernel_rfl) (fun K hK => ?_)
      go_simp
      refine hK.out _ _ ?_
      clear hK K
      refine wpAnyY_done (by kernel_rfl) ?_ _
      unfold noPO
      gi_wp2
      exact ⟨HQ.out, rfl, HJ3.out⟩
  case done =>
    rintro D xs Z hD hS ⟨hJs, hkx⟩ hKd
    have HJs := hideIt hJs
    clear hJs hkx
    go_wp2
    refine ⟨by simp, .inl ⟨_, _, rfl, run_takeDeferred hKd, ?_⟩⟩
    exact ⟨_, results_none rfl _ _ _, ⟨_, rfl⟩, .inl ⟨xs, hS, HJ.out _ _ _ HJs.out (below_put _ (by omega) hKd)⟩⟩
  case stop =>
    rintro D cd pre Z hD hS ⟨rfl, hJs⟩ hKd
    have HJs := hideIt hJs
    clear hJs
    gi_wp2
    refine ⟨by simp, .inl ⟨_, _, rfl, run_takeDeferred hKd, ?_⟩⟩
    exact ⟨_, results_none rfl _ _ _, ⟨_, rfl⟩, .inr ⟨pre, hS, HJx.out _ _ _ HJs.out (below_put _ (by omega) hKd)⟩⟩
end
end Go.Proofs.YtaopigjhdkdklaaDoor

namespace Go.Proofs.YtaopigjhdkdklaaDoor
open Go.RowKit Go.Shelf

theorem filt_stop {l : List Nat} {p : Nat → Bool} {pre : List (Ix l)} {x : Ix l} (h1 : (pre ++ [x]).map (fun x => x.1) <+: downL l.length 0) (h2 : ∀ y ∈ pre, p (l[y.1]'y.2) = false) (h3 : p (l[x.1]'x.2) = true) : (l.filter p).getLast? = some (l[x.1]'x.2) := by
  have hlen : pre.length + 1 ≤ l.length := by
    have := h1.length_le
    rw [downL_len] at this
    simpa using this
  have e : (pre ++ [x]).map (fun x => x.1) = downL l.length (l.length - (pre.length + 1)) := by
    have h4 := downL_pre (n := l.length) (l.length - (pre.length + 1)) (by omega)
    refine List.IsPrefix.eq_of_length (List.prefix_of_prefix_length_le h1 h4 ?_) ?_ <;> simp [downL_len] <;> omega
  obtain ⟨j, hj⟩ : ∃ j, j = l.length - (pre.length + 1) := ⟨_, rfl⟩
  have hjl : j < l.length := by omega
  rw [← hj, downL_step hjl, List.map_append] at e
  have e1 := List.append_inj' e rfl
  have ex : x.1 = j := by simpa using e1.2
  have hafter : ∀ i (hi : i < l.length), j < i → p l[i] = false := fun i hi hji => by
    have : i ∈ pre.map (fun x => x.1) := by
      rw [e1.1]
      unfold downL
      rw [List.mem_reverse, List.mem_range'_1]
      omega
    obtain ⟨y, hy, e⟩ := List.mem_map.1 this
    have := h2 y hy
    simp only [e] at this
    exact this
  have hsplit : l = l.take (j + 1) ++ l.drop (j + 1) := (List.take_append_drop _ _).symm
  have hd : (l.drop (j + 1)).filter p = [] := by
    rw [List.filter_eq_nil_iff]
    intro a ha
    obtain ⟨i, hi, e⟩ := List.getElem_of_mem ha
    rw [List.length_drop] at hi
    rw [List.getElem_drop] at e
    rw [← e, hafter (j + 1 + i) (by omega) (by omega)]
    simp
  have ht : l.take (j + 1) = l.take j ++ [l[j]] := by rw [List.take_add_one, List.getElem?_eq_getElem hjl]; rfl
  have hpj : p l[j] = true := by
    have := h3
    simp only [ex] at this
    exact this
  have : l.filter p = (l.take j).filter p ++ [l[j]] := by
    conv => lhs; rw [hsplit]
    rw [List.filter_append, hd, List.append_nil, ht, List.filter_append, List.filter_cons_of_pos hpj]
    rfl
  rw [this]
  simp [ex]
theorem filt_done {l : List Nat} {p : Nat → Bool} {xs : List (Ix l)} (h1 : xs.map (fun x => x.1) = downL l.length 0) (h2 : ∀ y ∈ xs, p (l[y.1]'y.2) = false) : l.filter p = [] := by
  rw [List.filter_eq_nil_iff]
  intro a ha
  obtain ⟨i, hi, e⟩ := List.getElem_of_mem ha
  have : i ∈ xs.map (fun x => x.1) := by
    rw [h1]
    unfold downL
    rw [List.mem_reverse, List.mem_range'_1]
    omega
  obtain ⟨y, hy, ey⟩ := List.mem_map.1 this
  have := h2 y hy
  simp only [ey] at this
  rw [← e, this]
  simp

section
variable {w0 W : World} {k : PrK} {c : Bool} {n : Nat} {st : MvS}
attribute [local go_sem] Oper.semAt_some
/-- None of those that came was committed ahead of one's begin. -/
def FindI (st : MvS) (t key : Nat) (W2 : World) (pre : List (Ix (st.ord key))) (Z : World) : Prop := (∀ y ∈ pre, decide (st.en ((st.ord key)[y.1]'y.2) < st.bg t) = false) ∧ Below W2.heap.size W2 Z
/-- The last one was. -/
def FindX (st : MvS) (t key : Nat) (W : World) (cd : Code) (pre : List (Ix (st.ord key))) (Z : World) : Prop := cd = .ret ∧ ∃ (pre' : List (Ix (st.ord key))) (x : Ix (st.ord key)), pre = pre' ++ [x] ∧ (∀ y ∈ pre', decide (st.en ((st.ord key)[y.1]'y.2) < st.bg t) = false) ∧ decide (st.en ((st.ord key)[x.1]'x.2) < st.bg t) = true ∧ Z.heap[W.heap.size]? = some (.cells #[.bool false, .int .i64 (key : Int), .int .i64 (((st.ord key)[x.1]'x.2 : Nat) : Int), .int .i64 ((wrN (st.ops ((st.ord key)[x.1]'x.2)) (key : Int) : Int) - 1)] 84 (0, 0)) ∧ Below W.heap.size W Z

set_option maxRecDepth 100000 in
set_option maxHeartbeats 4000000 in
theorem find_any (h : PrB w0 W k c n st) (hl : ∀ t, (st.ops t).length ≤ 60) {t : Nat} (ht : t < n) {key : Nat} (hk8 : key < 8) (hm : ∀ x ∈ st.ord key, x < n) (ho : (st.ord key).length ≤ 999) :
    Calls Tryd.prog 26 #[.pointer (some ⟨k.B, 0, none⟩), .int .i64 (t : Int), .int .i64 (key : Int)] W fun e w' => e = .returned (rdM st t key).agg ∧ Below W.heap.size W w' := by
  have HP := hideIt h
  have HL := hideIt hl
  have HM := hideIt hm
  have htI : (t : Int) < (n : Int) := by omega
  have hlt := h.lt
  have hltT := h.ltT
  have hWd : Below W.heap.size W ((W.alloc (.cells #[.bool false, .int .i64 0, .int .i64 0, .int .i64 0] 84)).alloc (.cells #[.pointer (some ⟨k.T, t * 4, none⟩)] 82)) := belA (belA (Below.refl _ _) _) _
  have HWr := hideIt (h.writes hl ht (key : Int) _ hWd)
  have hrb : ((W.alloc (.cells #[.bool false, .int .i64 0, .int .i64 0, .int .i64 0] 84)).alloc (.cells #[.pointer (some ⟨k.T, t * 4, none⟩)] 82)).heap[W.heap.size]? = some (.cells #[.bool false, .int .i64 0, .int .i64 0, .int .i64 0] 84 (0, 0)) := (Below.heap_alloc _ _ _ (by simp)).trans (heap_alloc_new _ _)
  have hdb : ((W.alloc (.cells #[.bool false, .int .i64 0, .int .i64 0, .int .i64 0] 84)).alloc (.cells #[.pointer (some ⟨k.T, t * 4, none⟩)] 82)).heap[W.heap.size + 1]? = some (.cells #[.pointer (some ⟨k.T, t * 4, none⟩)] 82 (0, 0)) := by
    have := heap_alloc_new (W.alloc (.cells #[.bool false, .int .i64 0, .int .i64 0, .int .i64 0] 84)) (.cells #[.pointer (some ⟨k.T, t * 4, none⟩)] 82)
    rwa [World.size_alloc] at this
  have c2 := h.cells.2.2.1
  have HWd := hideIt hWd
  have HRb := hideIt hrb
  have HDb := hideIt hdb
  clear hrb hdb hWd h hl hm
  refine (callsIn_wide (n := 9)).1 ?_
  refine callsIn_of_wp_marks Tryd.func26 rfl trivial ?_ rfl
  simp only [Tryd.ntmps26, List.size_toArray, List.length_cons, List.length_nil, Nat.reduceAdd, Nat.reduceSub, Array.replicate_succ, Array.replicate_zero, List.push_toArray, List.append_toArray, List.nil_append, List.cons_append]
  rw [wpIn_wide]
  refine wp_mono (Q := noPan (bodyPostM Fence.wide 9 Tryd.prog Tryd.f26 (fun e w' => e = .returned (rdM st t key).agg ∧ Below W.heap.size W w'))) ?_ noPan_spec
  go_wp2_with fail
  refine HWr.out.mono ?_
  rintro e W1 ⟨rfl, hb1⟩
  have hB1 := belJ HWd.out hb1
  have hrb1 := (hb1.block W.heap.size (by simp; omega)).trans HRb.out
  have hdb1 := (hb1.block (W.heap.size + 1) (by simp)).trans HDb.out
  have hs1 : W.heap.size + 2 ≤ W1.heap.size := by
    have := hb1.size
    simp at this
    omega
  clear HWr hb1 HRb HDb HWd c2
  have HB1 := hideIt hB1
  have HRb1 := hideIt hrb1
  have HDb1 := hideIt hdb1
  clear hB1
  by_cases hx : 0 < wrN (st.ops t) (key : Int)
  · have hR : rdM st t key = ⟨false, key, t, (wrN (st.ops t) key : Int) - 1⟩ := by unfold rdM; rw [if_pos hx]
    have HR := hideIt hR
    have HLa := hideIt (last_any HP.out HL.out ht (key : Int) W1 HB1.out)
    unfold lastO at HLa
    clear hR
    generalize wrN (st.ops t) (key : Int) = x at *
    have hx' : (0 : Int) < (x : Int) := by omega
    clear hx hrb1 hdb1
    go_wp2_with fail
    refine HLa.out.mono ?_
    rintro e W2 ⟨rfl, hb2⟩
    have hrb2 := (hb2.block W.heap.size (by omega)).trans HRb1.out
    have HB2 := hideIt (belJ HB1.out hb2)
    clear hb2 HLa
    have x0 : W2.cell? ⟨W.heap.size, 0, none⟩ = some (.bool false) := by rw [cell_of_row _ _ _ _ 84 _ hrb2]; rfl
    have x1 : W2.cell? ⟨W.heap.size, 1, none⟩ = some (.int .i64 0) := by rw [cell_of_row _ _ _ _ 84 _ hrb2]; rfl
    have x2 : W2.cell? ⟨W.heap.size, 2, none⟩ = some (.int .i64 0) := by rw [cell_of_row _ _ _ _ 84 _ hrb2]; rfl
    have x3 : W2.cell? ⟨W.heap.size, 3, none⟩ = some (.int .i64 0) := by rw [cell_of_row _ _ _ _ 84 _ hrb2]; rfl
    have f0 := fun i => frozen_of_row W2 W.heap.size i _ 84 hrb2
    have HG := hideIt (set4 (p := .bool false) (q := .int .i64 (key : Int)) (r := .int .i64 (t : Int)) (s := .int .i64 ((x : Int) - 1)) hrb2)
    go_wp2
    refine ⟨_, results_cell_row rfl _ _ W.heap.size 84 _ (0, 0) _ rfl HG.out Tryd.underlying84 rfl (by kernel_rfl), ?_⟩
    exact ⟨by rw [HR.out]; rfl, (((HB2.out.setCell (p := ⟨W.heap.size, 0, none⟩) (Nat.le_refl _) _).setCell (p := ⟨W.heap.size, 1, none⟩) (Nat.le_refl _) _).setCell (p := ⟨W.heap.size, 2, none⟩) (Nat.le_refl _) _).setCell (p := ⟨W.heap.size, 3, none⟩) (Nat.le_refl _) _⟩
  have HX := hideIt hx
  have hx' : ¬ (0 : Int) < (wrN (st.ops t) (key : Int) : Int) := by omega
  have HVs := hideIt (versions_any (some ⟨k.B, 0, none⟩) (key : Int) W1)
  generalize wrN (st.ops t) (key : Int) = xw at hx'
  clear hx
  go_wp2_with fail
  refine HVs.out.mono ?_
  rintro e W2 ⟨rfl, hW2⟩
  have hb2 : Below W1.heap.size W1 W2 := by rw [hW2]; exact belA (belA (Below.refl _ _) _) _
  have hs2 : W1.heap.size + 2 ≤ W2.heap.size := by rw [hW2]; simp
  have hcb : W2.cell? ⟨W1.heap.size, 0, none⟩ = some (.pointer (some ⟨k.B, 0, none⟩)) := by rw [hW2]; simp
  have hck : W2.cell? ⟨W1.heap.size + 1, 0, none⟩ = some (.int .i64 (key : Int)) := by rw [hW2]; simp
  clear hW2 HVs
  have HSq := hideIt (vers_stops (HP.out.below (belJ HB1.out hb2)) HL.out hk8 HM.out ho 8 W1.heap.size (W1.heap.size + 1) W.heap.size (fun b hb => (HP.out.own_lt hb).2) (by omega) (by omega) (by omega) hcb hck)
  have HB2 := hideIt (belJ HB1.out hb2)
  have HRb2 := hideIt ((hb2.block W.heap.size (by omega)).trans HRb1.out)
  have HDb2 := hideIt ((hb2.block (W.heap.size + 1) (by omega)).trans HDb1.out)
  clear hb2 hcb hck hrb1 hdb1
  go_wp2_with fail
  rw [← wpIn_wide (n := 9)]
  refine wpIn_rangeFunc_A rfl (by omega) (gf := 73) (lb := #[.pointer (some ⟨W1.heap.size, 0, none⟩), .pointer (some ⟨W1.heap.size + 1, 0, none⟩)]) rfl trivial (enters_of (P := Tryd.prog) Tryd.func73 (by kernel_rfl) rfl) HSq.out (fun b hb => by
      rcases hb with hb | hb | hb <;> omega) (Below.refl _ _) (fun _ => rfl)
    (FindI st t key W2) (FindX st t key W)
    (fun s A C hs hbl => ⟨hs.1, hs.2.trans hbl⟩)
    (fun cd s A C hs hbl => by
      obtain ⟨rfl, pre', x, h1, h2, h3, h4, h5⟩ := hs
      exact ⟨rfl, pre', x, h1, h2, h3, (hbl.block W.heap.size (by omega)).trans h4, h5.trans (hbl.mono (by omega))⟩)
    ⟨(fun y hy => by cases hy), Below.refl _ _⟩
    (fun x a' Z => ∃ Bx, W2.heap.size + 2 ≤ Bx ∧ Z.heap[Bx]? = some (.cells #[.bool false, .int .i64 (key : Int), .int .i64 (((st.ord key)[x.1]'x.2 : Nat) : Int), .int .i64 ((wrN (st.ops ((st.ord key)[x.1]'x.2)) (key : Int) : Int) - 1)] 84 (0, 0)) ∧ a' = { tmps := #[.pointer (some ⟨k.B, 0, none⟩), .int .i64 (t : Int), .int .i64 (key : Int), undef, undef, undef, .pointer (some ⟨W.heap.size, 0, none⟩), .pointer (some ⟨W.heap.size + 1, 0, none⟩), .int .i64 (st.en ((st.ord key)[x.1]'x.2)), .pointer (some ⟨Bx, 0, none⟩), .pointer (some ⟨k.B, 0, none⟩), .pointer (some ⟨k.B, 0, none⟩), .pointer (some ⟨k.B, 2, none⟩), .slice (some ⟨k.T, 0, none⟩) n n, .int .i64 (t : Int), .pointer (some ⟨k.T, t * 4, none⟩), .pointer (some ⟨k.T, t * 4, none⟩), .int .i64 (key : Int), .int .i64 (xw : Int), .bool false, undef, undef, undef, undef, .pointer (some ⟨k.B, 0, none⟩), .int .i64 (key : Int), .func (.func 73) #[] #[.pointer (some ⟨W1.heap.size, 0, none⟩), .pointer (some ⟨W1.heap.size + 1, 0, none⟩)], .int .i64 (st.en ((st.ord key)[x.1]'x.2)), .agg #[.bool false, .int .i64 (key : Int), .int .i64 (((st.ord key)[x.1]'x.2 : Nat) : Int), .int .i64 ((wrN (st.ops ((st.ord key)[x.1]'x.2)) (key : Int) : Int) - 1)], undef, undef, undef, undef, undef, undef, undef, undef, undef], defers := [] })
    (fun x a' A C hs hc => by
      obtain ⟨Bx, h1, h2, h3⟩ := hs
      exact ⟨Bx, h1, (hc Bx (by omega)).trans h2, h3⟩) ?assign ?body ?done ?stop
  case assign =>
    rintro l pre x Z K hi hsz hK
    unfold encV lastO
    have HK := hideIt (hK _ (Z.alloc (.cells #[.bool false, .int .i64 (key : Int), .int .i64 (((st.ord key)[x.1]'x.2 : Nat) : Int), .int .i64 ((wrN (st.ops ((st.ord key)[x.1]'x.2)) (key : Int) : Int) - 1)] 84)) (belA (Below.refl _ _) _) ⟨Z.heap.size, hsz, heap_alloc_new _ _, rfl⟩)
    clear hK
    gi_wp2
    exact HK.out
  case body =>
    rintro l pre x a' Z ⟨hpre, hbz⟩ ⟨Bx, hBx, hbox, rfl⟩ hsz hlen
    obtain ⟨u, hu⟩ : ∃ u, (st.ord key)[x.1]'x.2 = u := ⟨_, rfl⟩
    rw [hu] at hbox
    have HBox := hideIt hbox
    have HPre := hideIt hpre
    have HBz := hideIt hbz
    have hBW := belJ HB2.out hbz
    have p1 : Z.cell? ⟨W.heap.size + 1, 0, none⟩ = some (.pointer (some ⟨k.T, t * 4, none⟩)) := (hbz.cell (p := ⟨W.heap.size + 1, 0, none⟩) (by show W.heap.size + 1 < W2.heap.size; omega)).trans (by rw [cell_of_row _ _ _ _ 82 _ HDb2.out]; rfl)
    have p2 : Z.cell? ⟨k.T, t * 4 + 1, none⟩ = some (.int .i64 (st.bg t)) := (hBW.cell (p := ⟨k.T, t * 4 + 1, none⟩) hltT).trans (HP.out.tx t ht).2.1
    have hrbz := (hbz.block W.heap.size (by omega)).trans HRb2.out
    have HBW := hideIt hBW
    rw [hu]
    cases hd : decide (st.en u < st.bg t)
    · have hd' : ¬ st.en u < st.bg t := of_decide_eq_false hd
      have HD := hideIt hd
      clear hbox hpre hbz hBW hrbz hd
      gi_wp2
      exact ⟨KeptX.refl _, fun y hy => by
        rcases List.mem_append.1 hy with hy | hy
        · exact HPre.out y hy
        · rw [List.mem_singleton] at hy
          subst hy
          rw [hu]
          exact HD.out, HBz.out⟩
    · have hd' : st.en u < st.bg t := of_decide_eq_true hd
      have HD := hideIt hd
      have x0 : Z.cell? ⟨W.heap.size, 0, none⟩ = some (.bool false) := by rw [cell_of_row _ _ _ _ 84 _ hrbz]; rfl
      have x1 : Z.cell? ⟨W.heap.size, 1, none⟩ = some (.int .i64 0) := by rw [cell_of_row _ _ _ _ 84 _ hrbz]; rfl
      have x2 : Z.cell? ⟨W.heap.size, 2, none⟩ = some (.int .i64 0) := by rw [cell_of_row _ _ _ _ 84 _ hrbz]; rfl
      have x3 : Z.cell? ⟨W.heap.size, 3, none⟩ = some (.int .i64 0) := by rw [cell_of_row _ _ _ _ 84 _ hrbz]; rfl
      have f0 := fun i => frozen_of_row Z W.heap.size i _ 84 hrbz
      have y0 : Z.cell? ⟨Bx, 0, none⟩ = some (.bool false) := by rw [cell_of_row _ _ _ _ 84 _ hbox]; rfl
      have y1 : Z.cell? ⟨Bx, 1, none⟩ = some (.int .i64 (key : Int)) := by rw [cell_of_row _ _ _ _ 84 _ hbox]; rfl
      have y2 : Z.cell? ⟨Bx, 2, none⟩ = some (.int .i64 (u : Int)) := by rw [cell_of_row _ _ _ _ 84 _ hbox]; rfl
      have y3 : Z.cell? ⟨Bx, 3, none⟩ = some (.int .i64 ((wrN (st.ops u) (key : Int) : Int) - 1)) := by rw [cell_of_row _ _ _ _ 84 _ hbox]; rfl
      have HG := hideIt (set4 (p := .bool false) (q := .int .i64 (key : Int)) (r := .int .i64 (u : Int)) (s := .int .i64 ((wrN (st.ops u) (key : Int) : Int) - 1)) hrbz)
      clear hbox hpre hbz hBW hrbz hd
      have HKp : Hid (KeptX (fun b => b < W.heap.size ∨ b = W1.heap.size ∨ b = W1.heap.size + 1) W2.heap.size Z ((((Z.setCell ⟨W.heap.size, 0, none⟩ (.bool false)).setCell ⟨W.heap.size, 1, none⟩ (.int .i64 (key : Int))).setCell ⟨W.heap.size, 2, none⟩ (.int .i64 (u : Int))).setCell ⟨W.heap.size, 3, none⟩ (.int .i64 ((wrN (st.ops u) (key : Int) : Int) - 1)))) := by
        have hnx : ¬ (W.heap.size < W.heap.size ∨ W.heap.size = W1.heap.size ∨ W.heap.size = W1.heap.size + 1) := by omega
        have hlt2 : W.heap.size < W2.heap.size := by omega
        exact (((KeptX.set (p := ⟨W.heap.size, 0, none⟩) hnx hlt2 _).trans (KeptX.set (p := ⟨W.heap.size, 1, none⟩) hnx hlt2 _)).trans (KeptX.set (p := ⟨W.heap.size, 2, none⟩) hnx hlt2 _)).trans (KeptX.set (p := ⟨W.heap.size, 3, none⟩) hnx hlt2 _)
      gi_wp2
      exact ⟨HKp.out, rfl, pre, x, rfl, HPre.out, by rw [hu]; exact HD.out, by rw [hu]; exact HG.out, (((HBW.out.setCell (p := ⟨W.heap.size, 0, none⟩) (Nat.le_refl _) _).setCell (p := ⟨W.heap.size, 1, none⟩) (Nat.le_refl _) _).setCell (p := ⟨W.heap.size, 2, none⟩) (Nat.le_refl _) _).setCell (p := ⟨W.heap.size, 3, none⟩) (Nat.le_refl _) _⟩
  case done =>
    rintro D xs Z hD hS ⟨hpre, hbz⟩ hKd
    have hf := filt_done (p := fun u => decide (st.en u < st.bg t)) hS hpre
    have hbe : befM st t key = none := by unfold befM; rw [hf]; rfl
    have hR : rdM st t key = ⟨false, key, -1, 0⟩ := by unfold rdM; rw [if_neg HX.out, hbe]
    have HR := hideIt hR
    have hrbz := (hbz.block W.heap.size (by omega)).trans HRb2.out
    have HBz := hideIt (belJ HB2.out hbz)
    have HKd := hideIt hKd
    have x0 : Z.cell? ⟨W.heap.size, 0, none⟩ = some (.bool false) := by rw [cell_of_row _ _ _ _ 84 _ hrbz]; rfl
    have x1 : Z.cell? ⟨W.heap.size, 1, none⟩ = some (.int .i64 0) := by rw [cell_of_row _ _ _ _ 84 _ hrbz]; rfl
    have x2 : Z.cell? ⟨W.heap.size, 2, none⟩ = some (.int .i64 0) := by rw [cell_of_row _ _ _ _ 84 _ hrbz]; rfl
    have x3 : Z.cell? ⟨W.heap.size, 3, none⟩ = some (.int .i64 0) := by rw [cell_of_row _ _ _ _ 84 _ hrbz]; rfl
    have f0 := fun i => frozen_of_row Z W.heap.size i _ 84 hrbz
    have HG := hideIt (set4 (p := .bool false) (q := .int .i64 (key : Int)) (r := .int .i64 (-1)) (s := .int .i64 0) hrbz)
    have HBF := hideIt ((((HBz.out.setCell (p := ⟨W.heap.size, 0, none⟩) (Nat.le_refl _) (.bool false)).setCell (p := ⟨W.heap.size, 1, none⟩) (Nat.le_refl _) (.int .i64 (key : Int))).setCell (p := ⟨W.heap.size, 2, none⟩) (Nat.le_refl _) (.int .i64 (-1))).setCell (p := ⟨W.heap.size, 3, none⟩) (Nat.le_refl _) (.int .i64 0))
    have HKf : Hid (((((Z.setCell ⟨W.heap.size, 0, none⟩ (.bool false)).setCell ⟨W.heap.size, 1, none⟩ (.int .i64 (key : Int))).setCell ⟨W.heap.size, 2, none⟩ (.int .i64 (-1))).setCell ⟨W.heap.size, 3, none⟩ (.int .i64 0)).heap[D]? = some (.deferred (some []))) := by
      have hne : D ≠ W.heap.size := by omega
      exact (Below.heap_setCell _ ⟨W.heap.size, 3, none⟩ _ D hne).trans ((Below.heap_setCell _ ⟨W.heap.size, 2, none⟩ _ D hne).trans ((Below.heap_setCell _ ⟨W.heap.size, 1, none⟩ _ D hne).trans ((Below.heap_setCell _ ⟨W.heap.size, 0, none⟩ _ D hne).trans hKd)))
    clear hf hbe hR hpre hbz hKd hrbz
    go_wp2
    clear x0 x1 x2 x3 f0
    generalize (((Z.setCell _ _).setCell _ _).setCell _ _).setCell _ _ = V at HG HBF HKf ⊢
    refine ⟨by simp, .inl ⟨_, _, rfl, run_takeDeferred HKf.out, ?_⟩⟩
    have hg2 := (World.putObj_heap_other (w := V) (r := D) (o := .deferred none) (show W.heap.size ≠ D by omega)).trans HG.out
    refine ⟨_, results_cell_row rfl _ _ W.heap.size 84 _ (0, 0) _ rfl hg2 Tryd.underlying84 rfl (by kernel_rfl), ?_⟩
    exact ⟨by rw [HR.out]; rfl, HBF.out.trans (below_put _ (by omega) HKf.out)⟩
  case stop =>
    rintro D cd pre Z hD hS ⟨rfl, pre', x, rfl, h1, h2, h3, h4⟩ hKd
    have hbe : befM st t key = some ((st.ord key)[x.1]'x.2) := filt_stop (p := fun u => decide (st.en u < st.bg t)) hS h1 h2
    have hR : rdM st t key = ⟨false, key, ((st.ord key)[x.1]'x.2 : Nat), (wrN (st.ops ((st.ord key)[x.1]'x.2)) key : Int) - 1⟩ := by unfold rdM; rw [if_neg HX.out, hbe]
    have HR := hideIt hR
    have HG := hideIt h3
    have HBz := hideIt h4
    have HKd := hideIt hKd
    clear hbe hR h1 h2 h3 h4 hKd
    gi_wp2
    refine ⟨by simp, .inl ⟨_, _, rfl, run_takeDeferred HKd.out, ?_⟩⟩
    have hg2 := (World.putObj_heap_other (w := Z) (r := D) (o := .deferred none) (show W.heap.size ≠ D by omega)).trans HG.out
    refine ⟨_, results_cell_row rfl _ _ W.heap.size 84 _ (0, 0) _ rfl hg2 Tryd.underlying84 rfl (by kernel_rfl), ?_⟩
    exact ⟨by rw [HR.out]; rfl, HBz.out.trans (below_put _ (by omega) HKd.out)⟩
end
end Go.Proofs.YtaopigjhdkdklaaDoor

namespace Go.Proofs.YtaopigjhdkdklaaDoor
open Go.RowKit Go.Shelf

theorem one_load {w : World} {g : Nat} {t : TypeId} {b : Bool} (h : w.heap[g]? = some (.cells #[.bool b] t (0, 0))) : (loadVar 4 ⟨g, 0, none⟩).run Tryd.prog w = .ok (.bool b) w := by
  have hc : w.cell? ⟨g, 0, none⟩ = some (.bool b) := by rw [cell_of_row _ _ _ _ t _ h]; rfl
  go_simp
/-- Marks that loops over functions leave. -/
def mkD (D : Nat) : Deferred := { target := .collected D, args := #[] }
theorem leaves_marks {F : Fence} {m : Nat} {P : Program} {fn : Func} {tmps : Array Value} {R : Ending → World → Prop} {B : Nat} : ∀ (ds : List Nat) (W : World), ds.Nodup → (∀ D ∈ ds, B ≤ D ∧ W.heap[D]? = some (.deferred (some []))) →
    (∀ W', Below B W W' → (∀ b, b ∉ ds → W'.heap[b]? = W.heap[b]?) → ∃ v, (results fn tmps).run P W' = .ok v W' ∧ R (.returned v) W') → LeavesInM F m P fn tmps R (ds.map mkD) .returning W
  | [], W, _, _, h => h W (Below.refl _ _) (fun _ _ => rfl)
  | D :: ds, W, hn, hd, h => by
    obtain ⟨hB, hD⟩ := hd D (List.mem_cons_self ..)
    rw [List.nodup_cons] at hn
    refine ⟨by simp, .inl ⟨D, _, rfl, run_takeDeferred hD, ?_⟩⟩
    refine leaves_marks ds _ hn.2 (fun D' hD' => ⟨(hd D' (List.mem_cons_of_mem _ hD')).1, (World.putObj_heap_other (fun e => hn.1 (by rw [← e]; exact hD'))).trans (hd D' (List.mem_cons_of_mem _ hD')).2⟩) fun W' hb hk => ?_
    refine h W' ((below_put _ hB hD).trans hb) fun b hb' => ?_
    rw [List.mem_cons, not_or] at hb'
    exact (hk b hb'.2).trans (World.putObj_heap_other hb'.1)

section
variable {w0 W : World} {k : PrK} {c : Bool} {n : Nat} {st : MvS}
attribute [local go_sem] Oper.semAt_some
/-- What is so when q keys have been looked at. -/
structure LateI (W : World) (T : Nat) (st : MvS) (t q : Nat) (ds : List Nat) (Z : World) : Prop where
  old : oldP st t q = false
  bel : Below W.heap.size W Z
  res : Z.heap[W.heap.size]? = some (.cells #[.bool false] 4 (0, 0))
  box : Z.heap[W.heap.size + 1]? = some (.cells #[.pointer (some ⟨T, t * 4, none⟩)] 82 (0, 0))
  nod : ds.Nodup
  dfs : ∀ D ∈ ds, W.heap.size + 2 ≤ D ∧ Z.heap[D]? = some (.deferred (some []))
theorem LateI.below {T t q : Nat} {ds : List Nat} {Z Z' : World} (h : LateI W T st t q ds Z) (hb : Below Z.heap.size Z Z') : LateI W T st t q ds Z' :=
  ⟨h.old, belJ h.bel hb, (hb.block _ (lt_of_heap h.res)).trans h.res, (hb.block _ (lt_of_heap h.box)).trans h.box, h.nod, fun D hD => ⟨(h.dfs D hD).1, (hb.block D (lt_of_heap (h.dfs D hD).2)).trans (h.dfs D hD).2⟩⟩
/-- None of those that came was committed behind one's begin. -/
def LtI (st : MvS) (t q : Nat) (W2 : World) (pre : List (Ix (st.ord q))) (Z : World) : Prop := (∀ y ∈ pre, decide (st.bg t < st.en ((st.ord q)[y.1]'y.2)) = false) ∧ Below W2.heap.size W2 Z
/-- One was. -/
def LtX (st : MvS) (t q : Nat) (W W2 : World) (cd : Code) (_ : List (Ix (st.ord q))) (Z : World) : Prop := cd = .ret ∧ ∃ (x : Ix (st.ord q)), decide (st.bg t < st.en ((st.ord q)[x.1]'x.2)) = true ∧ Z.heap[W.heap.size]? = some (.cells #[.bool true] 4 (0, 0)) ∧ Below W.heap.size W Z ∧ ∀ b, b < W2.heap.size → b ≠ W.heap.size → Z.heap[b]? = W2.heap[b]?

set_option maxRecDepth 100000 in
set_option maxHeartbeats 8000000 in
theorem isLate_any (h : PrB w0 W k c n st) (hl : ∀ t, (st.ops t).length ≤ 60) {t : Nat} (ht : t < n) (hm : ∀ q, q < 8 → ∀ x ∈ st.ord q, x < n) (ho : ∀ q, q < 8 → (st.ord q).length ≤ 999) :
    Calls Tryd.prog 57 #[.pointer (some ⟨k.B, 0, none⟩), .int .i64 (t : Int)] W fun e w' => e = .returned (.bool (oldP st t 8)) ∧ Below W.heap.size W w' := by
  have HP := hideIt h
  have HL := hideIt hl
  have HM := hideIt hm
  have HO := hideIt ho
  have htI : (t : Int) < (n : Int) := by omega
  have hlt := h.lt
  have hltT := h.ltT
  have c2 := h.cells.2.2.1
  have hWd : Below W.heap.size W ((W.alloc (.cells #[.bool false] 4)).alloc (.cells #[.pointer (some ⟨k.T, t * 4, none⟩)] 82)) := belA (belA (Below.refl _ _) _) _
  have hdb : ((W.alloc (.cells #[.bool false] 4)).alloc (.cells #[.pointer (some ⟨k.T, t * 4, none⟩)] 82)).heap[W.heap.size + 1]? = some (.cells #[.pointer (some ⟨k.T, t * 4, none⟩)] 82 (0, 0)) := by
    have := heap_alloc_new (W.alloc (.cells #[.bool false] 4)) (.cells #[.pointer (some ⟨k.T, t * 4, none⟩)] 82)
    rwa [World.size_alloc] at this
  have HI : Hid (LateI W k.T st t 0 [] ((W.alloc (.cells #[.bool false] 4)).alloc (.cells #[.pointer (some ⟨k.T, t * 4, none⟩)] 82))) := ⟨rfl, hWd, (Below.heap_alloc _ _ _ (by simp)).trans (heap_alloc_new _ _), hdb, List.nodup_nil, fun D hD => by cases hD⟩
  clear hdb hWd h hl hm ho
  have HRm : Hid (∀ {q : Nat}, q < 8 → oldQ st t q (st.ord q).length = true → oldP st t 8 = true) := fun hq h => oldP_more st t hq h
  generalize hRR : oldP st t 8 = R at HRm ⊢
  have HRR := hideIt hRR
  clear hRR
  refine (callsIn_wide (n := 9)).1 ?_
  refine callsIn_of_wp_marks Tryd.func57 rfl trivial ?_ rfl
  simp only [Tryd.ntmps57, List.size_toArray, List.length_cons, List.length_nil, Nat.reduceAdd, Nat.reduceSub, Array.replicate_succ, Array.replicate_zero, List.push_toArray, List.append_toArray, List.nil_append, List.cons_append]
  rw [wpIn_wide]
  refine wp_mono (Q := noPan (bodyPostM Fence.wide 9 Tryd.prog Tryd.f57 (fun e w' => e = .returned (.bool R) ∧ Below W.heap.size W w'))) ?_ noPan_spec
  go_wp2
  refine wp_loop (fun a' Z => ∃ (q : Nat) (ds : List Nat) (u6 u7 u15 u16 u17 u18 u19 u20 u21 u22 u23 u24 u25 u26 u27 u28 u29 u30 u31 u32 : Value), a' = { tmps := #[.pointer (some ⟨k.B, 0, none⟩), .int .i64 (t : Int), undef, undef, .pointer (some ⟨W.heap.size, 0, none⟩), .pointer (some ⟨W.heap.size + 1, 0, none⟩), u6, u7, .pointer (some ⟨k.B, 0, none⟩), .pointer (some ⟨k.B, 0, none⟩), .pointer (some ⟨k.B, 2, none⟩), .slice (some ⟨k.T, 0, none⟩) n n, .int .i64 (t : Int), .pointer (some ⟨k.T, t * 4, none⟩), .int .i64 (q : Int), u15, u16, u17, u18, u19, u20, u21, u22, u23, u24, u25, u26, u27, u28, u29, u30, u31, u32], defers := ds.map mkD } ∧ q ≤ 8 ∧ LateI W k.T st t q ds Z) (fun a' _ => 8 - (intOf (a'.tmps.getD 14 undef)).toNat) ?_ ?_
  · exact ⟨0, [], _, _, _, _, _, _, _, _, _, _, _, _, _, _, _, _, _, _, _, _, rfl, by omega, HI.out⟩
  clear HI c2
  rintro _ Z ⟨q, ds, u6, u7, u15, u16, u17, u18, u19, u20, u21, u22, u23, u24, u25, u26, u27, u28, u29, u30, u31, u32, rfl, hq, hI⟩
  dsimp only
  have HI := hideIt hI
  have hbx : Z.cell? ⟨W.heap.size + 1, 0, none⟩ = some (.pointer (some ⟨k.T, t * 4, none⟩)) := by rw [cell_of_row _ _ _ _ 82 _ hI.box]; rfl
  by_cases hq8 : q < 8
  · have hq8' : (q : Int) < 8 := by omega
    have HWr := hideIt (HP.out.writes HL.out ht (q : Int) Z hI.bel)
    clear hI
    go_wp2_with fail
    refine HWr.out.mono ?_
    rintro e Z1 ⟨rfl, hb1⟩
    have HI1 := hideIt (HI.out.below hb1)
    clear HWr HI hb1 hbx
    by_cases hx : wrN (st.ops t) (q : Int) = 0
    · have HE : Hid (oldP st t (q + 1) = false) := by
        show _ = false
        rw [oldP_succ, HI1.out.old, Bool.false_or]
        unfold oldQ
        rw [List.any_eq_false]
        intro x _
        rw [hx]
        simp
      have HI2 : Hid (LateI W k.T st t (q + 1) ds Z1) := ⟨HE.out, HI1.out.bel, HI1.out.res, HI1.out.box, HI1.out.nod, HI1.out.dfs⟩
      have hx' : (((wrN (st.ops t) (q : Int) : Nat) : Int) == 0) = true := by rw [hx]; rfl
      generalize wrN (st.ops t) (q : Int) = xw at hx'
      clear hx HE
      go_wp2
      refine ⟨⟨q + 1, ds, _, _, _, _, _, _, _, _, _, _, _, _, _, _, _, _, _, _, _, _, rfl, by omega, HI2.out⟩, ?_⟩
      simp [intOf]
      omega
    have hx' : (((wrN (st.ops t) (q : Int) : Nat) : Int) == 0) = false := by rw [beq_eq_false_iff_ne]; omega
    have HXp : Hid (0 < wrN (st.ops t) (q : Int)) := by show 0 < _; omega
    have HVs := hideIt (versions_any (some ⟨k.B, 0, none⟩) (q : Int) Z1)
    generalize wrN (st.ops t) (q : Int) = xw at hx'
    clear hx
    go_wp2_with fail
    refine HVs.out.mono ?_
    rintro e Z2 ⟨rfl, hZ2⟩
    have hb2 : Below Z1.heap.size Z1 Z2 := by rw [hZ2]; exact belA (belA (Below.refl _ _) _) _
    have hs2 : Z1.heap.size + 2 ≤ Z2.heap.size := by rw [hZ2]; simp
    have hcb : Z2.cell? ⟨Z1.heap.size, 0, none⟩ = some (.pointer (some ⟨k.B, 0, none⟩)) := by rw [hZ2]; simp
    have hck : Z2.cell? ⟨Z1.heap.size + 1, 0, none⟩ = some (.int .i64 (q : Int)) := by rw [hZ2]; simp
    clear hZ2 HVs
    have HI2 := hideIt (HI1.out.below hb2)
    have hsW : W.heap.size + 2 ≤ Z1.heap.size := lt_of_heap HI1.out.box
    have HSq := hideIt (vers_stops (HP.out.below HI2.out.bel) HL.out hq8 (HM.out q hq8) (HO.out q hq8) 8 Z1.heap.size (Z1.heap.size + 1) W.heap.size (fun b hb => (HP.out.own_lt hb).2) (by omega) (by omega) (by omega) hcb hck)
    clear hb2 hcb hck HI1
    go_wp2_with fail
    rw [← wpIn_wide (n := 9)]
    refine wpIn_rangeFunc_B rfl (by omega) (gf := 73) (lb := #[.pointer (some ⟨Z1.heap.size, 0, none⟩), .pointer (some ⟨Z1.heap.size + 1, 0, none⟩)]) rfl trivial (enters_of (P := Tryd.prog) Tryd.func73 (by kernel_rfl) rfl) HSq.out (fun b hb => by
        rcases hb with hb | hb | hb <;> omega) (Below.refl _ _) (fun _ => rfl)
      (LtI st t q Z2) (LtX st t q W Z2)
      (fun s A C hs hbl => ⟨hs.1, hs.2.trans hbl⟩)
      (fun cd s A C hs hbl => by
        obtain ⟨rfl, x, h1, h2, h3, h4⟩ := hs
        exact ⟨rfl, x, h1, (hbl.block W.heap.size (by omega)).trans h2, h3.trans (hbl.mono (by omega)), fun b hb hne => (hbl.block b hb).trans (h4 b hb hne)⟩)
      ⟨(fun y hy => by cases hy), Below.refl _ _⟩
      (fun x => { tmps := #[.pointer (some ⟨k.B, 0, none⟩), .int .i64 (t : Int), undef, undef, .pointer (some ⟨W.heap.size, 0, none⟩), .pointer (some ⟨W.heap.size + 1, 0, none⟩), .int .i64 (q : Int), .int .i64 (st.en ((st.ord q)[x.1]'x.2)), .pointer (some ⟨k.B, 0, none⟩), .pointer (some ⟨k.B, 0, none⟩), .pointer (some ⟨k.B, 2, none⟩), .slice (some ⟨k.T, 0, none⟩) n n, .int .i64 (t : Int), .pointer (some ⟨k.T, t * 4, none⟩), .int .i64 (q : Int), .bool true, .int .i64 (q : Int), .pointer (some ⟨k.T, t * 4, none⟩), .int .i64 (q : Int), .int .i64 (xw : Int), .bool false, .pointer (some ⟨k.B, 0, none⟩), .int .i64 (q : Int), .func (.func 73) #[] #[.pointer (some ⟨Z1.heap.size, 0, none⟩), .pointer (some ⟨Z1.heap.size + 1, 0, none⟩)], .int .i64 (st.en ((st.ord q)[x.1]'x.2)), lastO st ((st.ord q)[x.1]'x.2) (q : Int), u26, u27, u28, u29, u30, u31, u32], defers := [] }) ?assign ?body ?done ?stop
    case assign =>
      intro l x Y K hK
      unfold encV
      gi_wp2
      exact hK
    case body =>
      rintro l pre x Y ⟨hpre, hbz⟩ hsz hlen
      obtain ⟨u, hu⟩ : ∃ u, (st.ord q)[x.1]'x.2 = u := ⟨_, rfl⟩
      have HPre := hideIt hpre
      have HBz := hideIt hbz
      have hBW := HI2.out.below hbz
      have p1 : Y.cell? ⟨W.heap.size + 1, 0, none⟩ = some (.pointer (some ⟨k.T, t * 4, none⟩)) := by rw [cell_of_row _ _ _ _ 82 _ hBW.box]; rfl
      have p2 : Y.cell? ⟨k.T, t * 4 + 1, none⟩ = some (.int .i64 (st.bg t)) := (hBW.bel.cell (p := ⟨k.T, t * 4 + 1, none⟩) hltT).trans (HP.out.tx t ht).2.1
      have hrbz := hBW.res
      have HBW := hideIt hBW
      rw [hu]
      cases hd : decide (st.bg t < st.en u)
      · have hd' : ¬ st.bg t < st.en u := of_decide_eq_false hd
        have HD := hideIt hd
        clear hpre hbz hBW hrbz hd
        gi_wp2
        exact ⟨KeptX.refl _, fun y hy => by
          rcases List.mem_append.1 hy with hy | hy
          · exact HPre.out y hy
          · rw [List.mem_singleton] at hy
            subst hy
            rw [hu]
            exact HD.out, HBz.out⟩
      · have hd' : st.bg t < st.en u := of_decide_eq_true hd
        have HD := hideIt hd
        have x0 : Y.cell? ⟨W.heap.size, 0, none⟩ = some (.bool false) := by rw [cell_of_row _ _ _ _ 4 _ hrbz]; rfl
        have f0 := frozen_of_row Y W.heap.size 0 _ 4 hrbz
        have HG : Hid ((Y.setCell ⟨W.heap.size, 0, none⟩ (.bool true)).heap[W.heap.size]? = some (.cells #[.bool true] 4 (0, 0))) := heap_setCell_same _ W.heap.size 0 _ 4 _ hrbz
        have HKp : Hid (KeptX (fun b => b < W.heap.size ∨ b = Z1.heap.size ∨ b = Z1.heap.size + 1) Z2.heap.size Y (Y.setCell ⟨W.heap.size, 0, none⟩ (.bool true))) := KeptX.set (p := ⟨W.heap.size, 0, none⟩) (by show ¬ (W.heap.size < W.heap.size ∨ W.heap.size = Z1.heap.size ∨ W.heap.size = Z1.heap.size + 1); omega) (by show W.heap.size < Z2.heap.size; omega) _
        clear hpre hbz hBW hrbz hd
        gi_wp2
        exact ⟨HKp.out, rfl, x, by rw [hu]; exact HD.out, HG.out, HBW.out.bel.setCell (p := ⟨W.heap.size, 0, none⟩) (Nat.le_refl _) _, fun b hb hne => (Below.heap_setCell _ ⟨W.heap.size, 0, none⟩ _ b hne).trans (HBz.out.block b hb)⟩
    case done =>
      rintro D xs Y hD hS ⟨hpre, hbz⟩ hKd
      have hf := filt_done (p := fun u => decide (st.bg t < st.en u)) hS hpre
      have HE : Hid (oldP st t (q + 1) = false) := by
        show _ = false
        rw [oldP_succ, HI2.out.old, Bool.false_or]
        unfold oldQ
        rw [List.take_length, List.any_eq_false]
        intro x hx
        have := List.filter_eq_nil_iff.1 hf x hx
        simp only [Bool.and_eq_true, not_and]
        intro _
        exact this
      have hBW := HI2.out.below hbz
      have HI3 : Hid (LateI W k.T st t (q + 1) (D :: ds) Y) := ⟨HE.out, hBW.bel, hBW.res, hBW.box, List.nodup_cons.2 ⟨fun hm => by
        have := lt_of_heap (HI2.out.dfs D hm).2
        omega, hBW.nod⟩, fun D' hD' => by
        rcases List.mem_cons.1 hD' with rfl | hD'
        · exact ⟨by omega, hKd⟩
        · exact hBW.dfs D' hD'⟩
      clear hf HE hBW hpre hbz hKd HSq
      go_wp2
      refine ⟨⟨q + 1, D :: ds, _, _, _, _, _, _, _, _, _, _, _, _, _, _, _, _, _, _, _, _, rfl, by omega, HI3.out⟩, ?_⟩
      simp [intOf]
      omega
    case stop =>
      rintro D cd pre Y hD hS ⟨rfl, x, h1, h2, h3, h4⟩ hKd
      have hR : R = true := by
        refine HRm.out hq8 ?_
        unfold oldQ
        rw [List.take_length, List.any_eq_true]
        exact ⟨_, List.getElem_mem x.2, by rw [decide_eq_true HXp.out, h1]; rfl⟩
      have hlv : LeavesInM Fence.wide 9 Tryd.prog Tryd.f57 #[.pointer (some ⟨k.B, 0, none⟩), .int .i64 (t : Int), undef, undef, .pointer (some ⟨W.heap.size, 0, none⟩), .pointer (some ⟨W.heap.size + 1, 0, none⟩), .int .i64 (q : Int), u7, .pointer (some ⟨k.B, 0, none⟩), .pointer (some ⟨k.B, 0, none⟩), .pointer (some ⟨k.B, 2, none⟩), .slice (some ⟨k.T, 0, none⟩) n n, .int .i64 (t : Int), .pointer (some ⟨k.T, t * 4, none⟩), .int .i64 (q : Int), .bool true, .int .i64 (q : Int), .pointer (some ⟨k.T, t * 4, none⟩), .int .i64 (q : Int), .int .i64 (xw : Int), .bool false, .pointer (some ⟨k.B, 0, none⟩), .int .i64 (q : Int), .func (.func 73) #[] #[.pointer (some ⟨Z1.heap.size, 0, none⟩), .pointer (some ⟨Z1.heap.size + 1, 0, none⟩)], u24, u25, u26, u27, u28, u29, u30, u31, u32] (fun e w' => e = .returned (.bool R) ∧ Below W.heap.size W w') ((D :: ds).map mkD) .returning Y := by
        refine leaves_marks (B := W.heap.size + 2) (D :: ds) Y (List.nodup_cons.2 ⟨fun hm => by
          have := lt_of_heap (HI2.out.dfs D hm).2
          omega, HI2.out.nod⟩) (fun D' hD' => by
          rcases List.mem_cons.1 hD' with rfl | hD'
          · exact ⟨by omega, hKd⟩
          · obtain ⟨e1, e2⟩ := HI2.out.dfs D' hD'
            exact ⟨e1, (h4 D' (lt_of_heap e2) (by omega)).trans e2⟩) fun W' hb hk => ?_
        have hres := (hb.block W.heap.size (by omega)).trans h2
        refine ⟨.bool true, ?_, by rw [hR], h3.trans (hb.mono (by omega))⟩
        exact results_one rfl _ _ W.heap.size _ rfl (one_load hres)
      have HLv := hideIt hlv
      clear hlv h1 h2 h3 h4 hKd hR
      gi_wp2
      exact HLv.out
  · have hqe : q = 8 := by omega
    have hqe' : ¬ (q : Int) < 8 := by omega
    have hR : R = false := by rw [← HRR.out, ← hqe]; exact hI.old
    have x0 : Z.cell? ⟨W.heap.size, 0, none⟩ = some (.bool false) := by rw [cell_of_row _ _ _ _ 4 _ hI.res]; rfl
    have f0 := frozen_of_row Z W.heap.size 0 _ 4 hI.res
    have hres : (Z.setCell ⟨W.heap.size, 0, none⟩ (.bool false)).heap[W.heap.size]? = some (.cells #[.bool false] 4 (0, 0)) := heap_setCell_same _ W.heap.size 0 _ 4 _ hI.res
    have HRes := hideIt hres
    have HRf := hideIt hR
    clear hR hres hI hqe hbx
    go_wp2
    refine leaves_marks (B := W.heap.size + 2) ds _ HI.out.nod (fun D' hD' => ?_) fun W' hb hk => ?_
    · obtain ⟨e1, e2⟩ := HI.out.dfs D' hD'
      exact ⟨e1, (Below.heap_setCell _ ⟨W.heap.size, 0, none⟩ _ D' (by show D' ≠ W.heap.size; omega)).trans e2⟩
    · have hres := (hb.block W.heap.size (by omega)).trans HRes.out
      refine ⟨.bool false, ?_, by rw [HRf.out], (HI.out.bel.setCell (p := ⟨W.heap.size, 0, none⟩) (Nat.le_refl _) _).trans (hb.mono (by omega))⟩
      exact results_one rfl _ _ W.heap.size _ rfl (one_load hres)
end
end Go.Proofs.YtaopigjhdkdklaaDoor
