/-
  Package clock's Steady and Below, walked.
-/
import Derived.Test.YtmonbkoelehdlaaDoorSpW
namespace Go.Proofs.YtmonbkoelehdlaaDoor
open Go.RowKit

theorem ErrAt.keep0 {w w' : World} {v : Value} {n pl : Int} {B : Nat} (h : ErrAt w v n pl) (hb : ∀ g, g < w.heap.size → g ≠ B → w'.heap[g]? = w.heap[g]?) (hs : w.heap.size ≤ w'.heap.size) (hB : w.cell? ⟨B, 0, none⟩ = some (.int .i64 0)) : ErrAt w' v n pl := by
  rcases h with h | h | ⟨h1, h2, g, h3, hgl, c0, c1⟩
  · exact .inl h
  · exact .inr (.inl h)
  · have hgw : g ≠ B := fun e => by
      subst e
      rw [hB] at c0
      simp at c0
      exact h1 c0.symm
    exact .inr (.inr ⟨h1, h2, g, h3, Nat.lt_of_lt_of_le hgl hs, (World.cell?_of_block (a := ⟨g, 0, none⟩) (hb g hgl hgw)).trans c0, (World.cell?_of_block (a := ⟨g, 1, none⟩) (hb g hgl hgw)).trans c1⟩)

/-- What Steady tells. -/
def SdTold (l : List Stp) (c : Nat → Int) (w : World) (e : Ending) (w' : World) : Prop :=
  ∃ b err n pl, e = .returned (.tuple #[.bool b, err]) ∧ CkX l c n pl ∧ ErrAt w' err n pl ∧ b = (decide (n = 0) && stdB l c) ∧ Below w.heap.size w w'
/-- What Below tells. -/
def BlTold (l : List Stp) (c : Nat → Int) (w : World) (e : Ending) (w' : World) : Prop :=
  ∃ d err n pl, e = .returned (.tuple #[vecA d, err]) ∧ CkX l c n pl ∧ ErrAt w' err n pl ∧ (∀ p, p < 8 → d p = if n = 0 then belN l c p else 0) ∧ Below w.heap.size w w'

set_option maxRecDepth 100000 in
set_option maxHeartbeats 4000000 in
theorem steady_any (l : List Stp) (a : Option Addr) (cap : Nat) (c : Nat → Int) (w : World) (hmax : l.length ≤ maxLen) (hl : StpsQ w a l) :
    Calls Tryd.prog 22 #[.slice a l.length cap, vecA c] w fun e w' => SdTold l c w e w' := by
  have HV0 := hideIt (vecB_new w c 45)
  have HB0 : Hid (Below w.heap.size w (w.alloc (vecO c 45))) := belA (Below.refl _ _) _
  have HC := hideIt (pathsTo_any l a cap c (w.alloc (vecO c 45)) hmax (hl.below HB0.out))
  clear hl
  unfold vecO at HV0 HB0 HC
  unfold vecA at *
  go_enter Tryd.func22, Tryd.ntmps22
  go_wp2_with fail
  refine HC.out.mono ?_
  rintro e w1 ⟨A, M, C, err, n, pl, rfl, hck, her, hkn, hb1⟩
  have HCk := hideIt hck
  have hb2 := (Below.refl w1.heap.size w1).alloc (Nat.le_refl _) (.cells #[slV A M C 0, slV A M C 1, slV A M C 2, slV A M C 3, slV A M C 4, slV A M C 5, slV A M C 6, slV A M C 7] 78)
  have HK0 := hideIt (roomB_new w1 (slV A M C) 78)
  have HV1 := hideIt ((HV0.out.below hb1 HV0.out.lt).below hb2 (HV0.out.below hb1 HV0.out.lt).lt)
  have HB1 := hideIt (belA (belJ HB0.out hb1) (.cells #[slV A M C 0, slV A M C 1, slV A M C 2, slV A M C 3, slV A M C 4, slV A M C 5, slV A M C 6, slV A M C 7] 78))
  have HE := hideIt (her.below hb2)
  have HKn : Hid (n = 0 → KnRead l (w1.alloc (.cells #[slV A M C 0, slV A M C 1, slV A M C 2, slV A M C 3, slV A M C 4, slV A M C 5, slV A M C 6, slV A M C 7] 78)) (slV A M C)) := fun h => (hkn h).below hb2
  clear hck hb1 HC HB0 HV0 hkn hb2
  have hAgg : pthA (slV A M C) = .agg #[slV A M C 0, slV A M C 1, slV A M C 2, slV A M C 3, slV A M C 4, slV A M C 5, slV A M C 6, slV A M C 7] := rfl
  rw [hAgg]
  clear hAgg
  unfold slV at HK0 HV1 HB1 HE HKn
  unfold slV
  by_cases hn : n = 0
  · subst hn
    obtain ⟨rfl, rfl⟩ := her.nil
    obtain ⟨hck0, hcut, _⟩ := HCk.out.ok
    have HSt := hideIt (steadyP_any l A M C c _ hck0.ok.1 (HKn.out rfl) hcut)
    obtain ⟨y0, y1, y2, y3, y4, y5, y6, y7⟩ := HV1.out.eight
    obtain ⟨x0, x1, x2, x3, x4, x5, x6, x7⟩ := HK0.out.eight
    unfold pthA vecA slV at HSt
    clear her HKn HE
    go_upto_region 4 with fail
    generalize w1.alloc _ = W2 at HSt HK0 HV1 HB1 y0 y1 y2 y3 y4 y5 y6 y7 x0 x1 x2 x3 x4 x5 x6 x7 ⊢
    generalize w1.heap.size = G at HK0 x0 x1 x2 x3 x4 x5 x6 x7 ⊢
    go_wp2_with fail
    refine HSt.out.mono ?_
    rintro e w3 ⟨rfl, hb3⟩
    go_wp2
    go_ret2
    exact ⟨_, _, 0, -1, rfl, HCk.out, .inl ⟨rfl, rfl, rfl⟩, by simp, belJ HB1.out hb3⟩
  · obtain ⟨tt, uu, rfl⟩ := her.ne hn
    clear her HKn
    go_wp2
    go_ret2
    exact ⟨_, _, n, pl, rfl, HCk.out, HE.out, by simp [hn], HB1.out⟩

set_option maxRecDepth 100000 in
set_option maxHeartbeats 4000000 in
theorem below_any (l : List Stp) (a : Option Addr) (cap : Nat) (c : Nat → Int) (w : World) (hmax : l.length ≤ maxLen) (hl : StpsQ w a l) :
    Calls Tryd.prog 25 #[.slice a l.length cap, vecA c] w fun e w' => BlTold l c w e w' := by
  have HV0 := hideIt ((vecB_new w c 45).alloc (vecO (fun _ => 0) 45))
  have HR0 : Hid (VecB ((w.alloc (vecO c 45)).alloc (vecO (fun _ => 0) 45)) (w.heap.size + 1) (fun _ => 0)) := by
    have := vecB_new (w.alloc (vecO c 45)) (fun _ => 0) 45
    rw [World.size_alloc] at this
    exact this
  have HB0 : Hid (Below w.heap.size w ((w.alloc (vecO c 45)).alloc (vecO (fun _ => 0) 45))) := belA (belA (Below.refl _ _) _) _
  have HC := hideIt (pathsTo_any l a cap c ((w.alloc (vecO c 45)).alloc (vecO (fun _ => 0) 45)) hmax (hl.below HB0.out))
  clear hl
  unfold vecO at HV0 HB0 HC HR0
  unfold vecA at HC ⊢
  go_enter Tryd.func25, Tryd.ntmps25
  go_wp2_with fail
  refine HC.out.mono ?_
  rintro e w1 ⟨A, M, C, err, n, pl, rfl, hck, her, hkn, hb1⟩
  have HCk := hideIt hck
  have hb2 := (Below.refl w1.heap.size w1).alloc (Nat.le_refl _) (.cells #[slV A M C 0, slV A M C 1, slV A M C 2, slV A M C 3, slV A M C 4, slV A M C 5, slV A M C 6, slV A M C 7] 78)
  have HK0 := hideIt (roomB_new w1 (slV A M C) 78)
  have HV1 := hideIt ((HV0.out.below hb1 HV0.out.lt).below hb2 (HV0.out.below hb1 HV0.out.lt).lt)
  have HR1 := hideIt ((HR0.out.below hb1 HR0.out.lt).below hb2 (HR0.out.below hb1 HR0.out.lt).lt)
  have HB1 := hideIt (belA (belJ HB0.out hb1) (.cells #[slV A M C 0, slV A M C 1, slV A M C 2, slV A M C 3, slV A M C 4, slV A M C 5, slV A M C 6, slV A M C 7] 78))
  have HE := hideIt (her.below hb2)
  have HKn : Hid (n = 0 → KnRead l (w1.alloc (.cells #[slV A M C 0, slV A M C 1, slV A M C 2, slV A M C 3, slV A M C 4, slV A M C 5, slV A M C 6, slV A M C 7] 78)) (slV A M C)) := fun h => (hkn h).below hb2
  clear hck hb1 HC HB0 HV0 HR0 hkn hb2
  have hAgg : pthA (slV A M C) = .agg #[slV A M C 0, slV A M C 1, slV A M C 2, slV A M C 3, slV A M C 4, slV A M C 5, slV A M C 6, slV A M C 7] := rfl
  rw [hAgg]
  clear hAgg
  unfold slV at HK0 HV1 HB1 HE HKn HR1
  unfold slV
  by_cases hn : n = 0
  · subst hn
    obtain ⟨rfl, rfl⟩ := her.nil
    obtain ⟨hck0, hcut, _⟩ := HCk.out.ok
    have HSt := hideIt (belowP_any l hck0.clOk.proc A M C c _ hck0.ok.1 (HKn.out rfl) hcut)
    obtain ⟨y0, y1, y2, y3, y4, y5, y6, y7⟩ := HV1.out.eight
    obtain ⟨x0, x1, x2, x3, x4, x5, x6, x7⟩ := HK0.out.eight
    unfold pthA vecA slV at HSt
    clear her HKn HE
    go_upto_region 4 with fail
    generalize w1.alloc _ = W2 at HSt HK0 HV1 HB1 HR1 y0 y1 y2 y3 y4 y5 y6 y7 x0 x1 x2 x3 x4 x5 x6 x7 ⊢
    generalize w1.heap.size = G at HK0 x0 x1 x2 x3 x4 x5 x6 x7 ⊢
    go_wp2_with fail
    refine HSt.out.mono ?_
    rintro e w3 ⟨rfl, hb3⟩
    have HR3 := hideIt (HR1.out.below hb3 HR1.out.lt)
    have HB3 := hideIt (belJ HB1.out hb3)
    obtain ⟨z0, z1, z2, z3, z4, z5, z6, z7⟩ := HR3.out.eight
    have zf := HR3.out.fz
    clear hb3 x0 x1 x2 x3 x4 x5 x6 x7 y0 y1 y2 y3 y4 y5 y6 y7
    go_wp2
    refine bodyPost_ret (results_two rfl _ _ _ _ rfl (load45 (HR3.out.store (belN l c)).at_)) rfl ?_
    exact ⟨belN l c, _, 0, -1, rfl, HCk.out, .inl ⟨rfl, rfl, rfl⟩, fun p _ => by simp, HB3.out.grown (grown_setCells _ (vecL (belN l c)) 0 _) HB3.out.size (fun b' hb' => by cases hb'; omega)⟩
  · obtain ⟨tt, uu, rfl⟩ := her.ne hn
    clear her HKn
    go_upto_region 3 with fail
    generalize w1.alloc _ = W2 at HK0 HV1 HB1 HR1 HE ⊢
    obtain ⟨z0, z1, z2, z3, z4, z5, z6, z7⟩ := HR1.out.eight
    have zf := HR1.out.fz
    have hg := grown_setCells (w.heap.size + 1) (vecL fun _ => 0) 0 W2
    have HE2 : Hid (ErrAt (W2.setCells (w.heap.size + 1) 0 (vecL fun _ => 0)) (.iface tt uu) n pl) := HE.out.keep0 (fun g h1 h2 => hg.block g h1 (by simp; omega)) hg.size z0
    have HB2 : Hid (Below w.heap.size w (W2.setCells (w.heap.size + 1) 0 (vecL fun _ => 0))) := HB1.out.grown hg HB1.out.size (fun b' hb' => by cases hb'; omega)
    clear hg
    go_wp2
    refine bodyPost_ret (results_two rfl _ _ _ _ rfl (load45 (HR1.out.store fun _ => 0).at_)) rfl ?_
    exact ⟨fun _ => 0, _, n, pl, rfl, HCk.out, HE2.out, fun p _ => by simp [hn], HB2.out⟩
end Go.Proofs.YtmonbkoelehdlaaDoor
