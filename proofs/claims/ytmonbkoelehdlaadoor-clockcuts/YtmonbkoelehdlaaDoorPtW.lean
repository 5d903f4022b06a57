/-
  Package clock's pathsTo, walked.
-/
import Derived.Test.YtmonbkoelehdlaaDoorPaW
namespace Go.Proofs.YtmonbkoelehdlaaDoor
open Go.RowKit

/-- What is told of steps and a cut. -/
def CkX (l : List Stp) (c : Nat → Int) (n pl : Int) : Prop :=
  ∃ n0 pl0, CkC l n0 pl0 ∧ ((n0 ≠ 0 ∧ n = n0 ∧ pl = pl0) ∨ (n0 = 0 ∧ ((CutOk l c ∧ n = 0 ∧ pl = -1) ∨ (¬ CutOk l c ∧ n = 2 ∧ pl = -1))))
theorem CkX.one {l : List Stp} {c : Nat → Int} {n n' pl pl' : Int} (h : CkX l c n pl) (h' : CkX l c n' pl') : n = n' ∧ pl = pl' := by
  obtain ⟨n0, p0, hc, h⟩ := h
  obtain ⟨n1, p1, hc', h'⟩ := h'
  obtain ⟨rfl, rfl⟩ := hc.one hc'
  rcases h with ⟨h0, rfl, rfl⟩ | ⟨h0, h⟩
  · rcases h' with ⟨_, rfl, rfl⟩ | ⟨h1, _⟩
    · exact ⟨rfl, rfl⟩
    · exact absurd h1 h0
  · rcases h' with ⟨h1, _⟩ | ⟨_, h'⟩
    · exact absurd h0 h1
    · rcases h with ⟨ho, rfl, rfl⟩ | ⟨ho, rfl, rfl⟩
      · rcases h' with ⟨_, rfl, rfl⟩ | ⟨hn, _⟩
        · exact ⟨rfl, rfl⟩
        · exact absurd ho hn
      · rcases h' with ⟨hn, _⟩ | ⟨_, rfl, rfl⟩
        · exact absurd hn ho
        · exact ⟨rfl, rfl⟩
theorem CkX.ok {l : List Stp} {c : Nat → Int} {pl : Int} (h : CkX l c 0 pl) : CkC l 0 (-1) ∧ CutOk l c ∧ pl = -1 := by
  obtain ⟨n0, p0, hc, ⟨h0, e, _⟩ | ⟨rfl, ⟨ho, _, hp⟩ | ⟨_, e, _⟩⟩⟩ := h
  · exact absurd e.symm h0
  · exact ⟨by obtain ⟨_, _, rfl⟩ := hc.ok; exact hc, ho, hp⟩
  · cases e
theorem ErrAt.keep {w w' : World} {v : Value} {n pl : Int} {B : Nat} (h : ErrAt w v n pl) (hb : ∀ g, g < w.heap.size → g ≠ B → w'.heap[g]? = w.heap[g]?) (hs : w.heap.size ≤ w'.heap.size) (hB : ∀ x, w.cell? ⟨B, 0, none⟩ ≠ some (.int .i64 x)) : ErrAt w' v n pl := by
  rcases h with h | h | ⟨h1, h2, g, h3, hgl, c0, c1⟩
  · exact .inl h
  · exact .inr (.inl h)
  · have hgw : g ≠ B := fun e => by
      subst e
      exact hB n c0
    exact .inr (.inr ⟨h1, h2, g, h3, Nat.lt_of_lt_of_le hgl hs, (World.cell?_of_block (a := ⟨g, 0, none⟩) (hb g hgl hgw)).trans c0, (World.cell?_of_block (a := ⟨g, 1, none⟩) (hb g hgl hgw)).trans c1⟩)
theorem RoomB.noInt {w : World} {g : Nat} {A : Nat → Option Addr} {M C : Nat → Nat} (h : RoomB w g (slV A M C)) (x : Int) : w.cell? ⟨g, 0, none⟩ ≠ some (.int .i64 x) := by
  rw [h.at_ 0 (by omega)]
  intro e
  cases e
theorem KnRead.set {l : List Stp} {w : World} {vs us : Nat → Value} {B : Nat} (h : KnRead l w vs) (hB : ∀ t, t < 8 → ∃ x, w.cell? ⟨B, t, none⟩ = some x ∧ ∀ y : Int, x ≠ .int .i64 y) : KnRead l (w.setCells B 0 (pthCs us)) vs := fun p hp => by
  obtain ⟨g, cap, h1, h2, h3, h4⟩ := h p hp
  have hgb := grown_setCells B (pthCs us) 0 w
  have hne : g ≠ B := fun e => by
    subst e
    obtain ⟨x, hx, hy⟩ := hB 0 (by omega)
    have := h4 0 (Nat.zero_le _) 0 (by omega)
    rw [Nat.zero_mul, Nat.zero_add, hx] at this
    exact hy _ (Option.some.inj this)
  refine ⟨g, cap, h1, h2, Nat.lt_of_lt_of_le h3 hgb.size, fun r hr q hq => ?_⟩
  rw [World.cell?_of_block (a := ⟨g, r * 8 + q, none⟩) (hgb.block g h3 (by simp; omega))]
  exact h4 r hr q hq
theorem RoomB.noInts {w : World} {g : Nat} {A : Nat → Option Addr} {M C : Nat → Nat} (h : RoomB w g (slV A M C)) : ∀ t, t < 8 → ∃ x, w.cell? ⟨g, t, none⟩ = some x ∧ ∀ y : Int, x ≠ .int .i64 y := fun t ht => ⟨_, h.at_ t ht, fun y e => by cases e⟩
def nilA : Nat → Option Addr := fun _ => none
def nilM : Nat → Nat := fun _ => 0

/-- What pathsTo tells. -/
def PtTold (l : List Stp) (c : Nat → Int) (w : World) (e : Ending) (w' : World) : Prop :=
  ∃ A M C err n pl, e = .returned (.tuple #[pthA (slV A M C), err]) ∧ CkX l c n pl ∧ ErrAt w' err n pl ∧ (n = 0 → KnRead l w' (slV A M C)) ∧ Below w.heap.size w w'

set_option maxRecDepth 100000 in
set_option maxHeartbeats 4000000 in
theorem pathsTo_any (l : List Stp) (a : Option Addr) (cap : Nat) (c : Nat → Int) (w : World) (hmax : l.length ≤ maxLen) (hl : StpsQ w a l) :
    Calls Tryd.prog 34 #[.slice a l.length cap, vecA c] w fun e w' => PtTold l c w e w' := by
  have HV0 : Hid (VecB ((w.alloc (vecO c 45)).alloc (.cells #[slV nilA nilM nilM 0, slV nilA nilM nilM 1, slV nilA nilM nilM 2, slV nilA nilM nilM 3, slV nilA nilM nilM 4, slV nilA nilM nilM 5, slV nilA nilM nilM 6, slV nilA nilM nilM 7] 78)) w.heap.size c) := (vecB_new w c 45).alloc _
  have HR0 : Hid (RoomB ((w.alloc (vecO c 45)).alloc (.cells #[slV nilA nilM nilM 0, slV nilA nilM nilM 1, slV nilA nilM nilM 2, slV nilA nilM nilM 3, slV nilA nilM nilM 4, slV nilA nilM nilM 5, slV nilA nilM nilM 6, slV nilA nilM nilM 7] 78)) (w.heap.size + 1) (slV nilA nilM nilM)) := by
    have := roomB_new (w.alloc (vecO c 45)) (slV nilA nilM nilM) 78
    rw [World.size_alloc] at this
    exact this
  have HB0 : Hid (Below w.heap.size w ((w.alloc (vecO c 45)).alloc (.cells #[slV nilA nilM nilM 0, slV nilA nilM nilM 1, slV nilA nilM nilM 2, slV nilA nilM nilM 3, slV nilA nilM nilM 4, slV nilA nilM nilM 5, slV nilA nilM nilM 6, slV nilA nilM nilM 7] 78))) := belA (belA (Below.refl _ _) _) _
  have HC := hideIt (pathsOf_any l a cap ((w.alloc (vecO c 45)).alloc (.cells #[slV nilA nilM nilM 0, slV nilA nilM nilM 1, slV nilA nilM nilM 2, slV nilA nilM nilM 3, slV nilA nilM nilM 4, slV nilA nilM nilM 5, slV nilA nilM nilM 6, slV nilA nilM nilM 7] 78)) hmax (hl.below HB0.out))
  clear hl
  have hix := idx45 c
  have e0 : slV nilA nilM nilM 0 = .slice none 0 0 ∧ slV nilA nilM nilM 1 = .slice none 0 0 ∧ slV nilA nilM nilM 2 = .slice none 0 0 ∧ slV nilA nilM nilM 3 = .slice none 0 0 ∧ slV nilA nilM nilM 4 = .slice none 0 0 ∧ slV nilA nilM nilM 5 = .slice none 0 0 ∧ slV nilA nilM nilM 6 = .slice none 0 0 ∧ slV nilA nilM nilM 7 = .slice none 0 0 := ⟨rfl, rfl, rfl, rfl, rfl, rfl, rfl, rfl⟩
  rw [e0.1, e0.2.1, e0.2.2.1, e0.2.2.2.1, e0.2.2.2.2.1, e0.2.2.2.2.2.1, e0.2.2.2.2.2.2.1, e0.2.2.2.2.2.2.2] at HC HR0 HB0 HV0
  clear e0
  unfold vecO at HC HR0 HB0 HV0
  unfold vecA at *
  go_enter Tryd.func34, Tryd.ntmps34
  go_wp2_with fail
  refine HC.out.mono ?_
  rintro e w1 ⟨A, M, C, err, n, pl, rfl, hck, her, hkn, hb1⟩
  have HCk := hideIt hck
  have hR0l := HR0.out.lt
  have hV0l := HV0.out.lt
  have HK0 := hideIt (roomB_new w1 (slV A M C) 78)
  have hb2 := (Below.refl w1.heap.size w1).alloc (Nat.le_refl _) (.cells #[slV A M C 0, slV A M C 1, slV A M C 2, slV A M C 3, slV A M C 4, slV A M C 5, slV A M C 6, slV A M C 7] 78)
  have HR1 := hideIt ((HR0.out.below hb1 hR0l).below hb2 (Nat.lt_of_lt_of_le hR0l hb1.size))
  have HV1 := hideIt ((HV0.out.below hb1 hV0l).below hb2 (Nat.lt_of_lt_of_le hV0l hb1.size))
  have HB1 := hideIt (belA (belJ HB0.out hb1) (.cells #[slV A M C 0, slV A M C 1, slV A M C 2, slV A M C 3, slV A M C 4, slV A M C 5, slV A M C 6, slV A M C 7] 78))
  have HE := hideIt (her.below hb2)
  have HKn : Hid (n = 0 → KnRead l (w1.alloc (.cells #[slV A M C 0, slV A M C 1, slV A M C 2, slV A M C 3, slV A M C 4, slV A M C 5, slV A M C 6, slV A M C 7] 78)) (slV A M C)) := fun h => (hkn h).below hb2
  clear hck hb1 HC HB0 HR0 HV0 hkn hb2
  unfold pthA
  unfold slV at HK0 HR1 HV1 HB1 HE HKn
  unfold slV
  by_cases hn : n = 0
  · subst hn
    obtain ⟨rfl, rfl⟩ := her.nil
    clear her
    obtain ⟨c0, c1, c2, c3, c4, c5, c6, c7⟩ := HV1.out.eight
    have HKr := hideIt (HKn.out rfl)
    clear HKn
    go_upto_region 4 with fail
    generalize w1.alloc _ = W2 at HK0 HR1 HV1 HB1 HE HKr c0 c1 c2 c3 c4 c5 c6 c7 ⊢
    clear HE
    generalize w1.heap.size = G at HK0 ⊢
    clear hR0l hV0l
    go_wp2
    go_loopw [20] (fun i wr => ∃ k : Nat, k ≤ 8 ∧ i = .int .i64 k ∧ (∀ q, q < k → 0 ≤ c q ∧ c q ≤ allC l (q : Int)) ∧ wr = W2) (fun i _ => 8 - (intOf i).toNat)
    case atStart => exact ⟨0, by omega, rfl, fun q hq => absurd hq (by omega), rfl⟩
    case round =>
      obtain ⟨k, hk, rfl, ha, rfl⟩ := hrel
      have HA := hideIt ha
      clear ha c0 c1 c2 c3 c4 c5 c6 c7
      obtain ⟨d0, d1, d2, d3, d4, d5, d6, d7⟩ := HR1.out.eight
      have zf := HR1.out.fz
      have HBad : Hid (¬ CutOk l c → PtTold l c w (.returned (.tuple #[pthA (slV nilA nilM nilM), .iface 25 (.int .i64 2)])) (wr.setCells (w.heap.size + 1) 0 (pthCs (slV nilA nilM nilM)))) := fun h => ⟨nilA, nilM, nilM, _, 2, -1, rfl, ⟨0, -1, HCk.out, .inr ⟨rfl, .inr ⟨h, rfl, rfl⟩⟩⟩, .inr (.inl ⟨by decide, rfl, rfl⟩), fun h => absurd h (by decide), HB1.out.grown (grown_setCells _ _ _ _) HB1.out.size (fun b' hb' => by cases hb'; omega)⟩
      have HFin : Hid (RoomB (wr.setCells (w.heap.size + 1) 0 (pthCs (slV nilA nilM nilM))) (w.heap.size + 1) (slV nilA nilM nilM)) := HR1.out.store _
      by_cases hk8 : k < 8
      · have hi := hix wr k hk8
        obtain ⟨g, gc, hsl, hgc, _, _⟩ := HKr.out k hk8
        have hc := HK0.out.at_ k hk8
        rw [show Value.slice (A k) (M k) (C k) = .slice (some ⟨g, 0, none⟩) (allC l (k : Int) + 1) gc from hsl] at hc
        have hall := cnt_len l (fun _ => true) (k : Int)
        have h40 := HCk.out.ok.1
        obtain ⟨m, hm⟩ : ∃ m, allC l (k : Int) = m := ⟨_, rfl⟩
        have hm40 : m ≤ 40 := by rw [← hm]; exact Nat.le_trans hall h40
        rw [hm] at hc
        have HMm := hideIt hm
        have hk8' : (k : Int) < 8 := by omega
        clear hix hsl hall hm
        by_cases h0 : c k < 0
        · have R := hideIt (HBad.out fun h => by have := (h k hk8).1; omega)
          clear HBad
          go_wp2
          refine bodyPost_ret (results_two rfl _ _ _ _ rfl (load78 HFin.out.at_)) rfl ?_
          exact R.out
        · by_cases h1 : c k ≤ m
          · have R1 : Hid (∀ q, q < k + 1 → 0 ≤ c q ∧ c q ≤ allC l (q : Int)) := fun q hq => by
              by_cases e : q = k
              · subst e; rw [HMm.out]; exact ⟨by omega, by omega⟩
              · exact HA.out q (by omega)
            have h1' : c k < (m : Int) + 1 := by omega
            clear HBad
            go_wp2
            go_roundw
            case rel => exact ⟨k + 1, by omega, by go_num, R1.out, by first | rfl | trivial⟩
            case measure => simp [intOf]; omega
          · have R := hideIt (HBad.out fun h => by have := (h k hk8).2; rw [HMm.out] at this; omega)
            have h1' : ¬ c k < (m : Int) + 1 := by omega
            clear HBad
            go_wp2
            refine bodyPost_ret (results_two rfl _ _ _ _ rfl (load78 HFin.out.at_)) rfl ?_
            exact R.out
      · have hcut : CutOk l c := fun p hp => HA.out p (by omega)
        obtain ⟨x0, x1, x2, x3, x4, x5, x6, x7⟩ := HK0.out.eight
        have HF2 : Hid (RoomB (wr.setCells (w.heap.size + 1) 0 (pthCs (slV A M C))) (w.heap.size + 1) (slV A M C)) := HR1.out.store _
        have R : Hid (PtTold l c w (.returned (.tuple #[pthA (slV A M C), .nilIface])) (wr.setCells (w.heap.size + 1) 0 (pthCs (slV A M C)))) := ⟨A, M, C, _, 0, -1, rfl, ⟨0, -1, HCk.out, .inr ⟨rfl, .inl ⟨hcut, rfl, rfl⟩⟩⟩, .inl ⟨rfl, rfl, rfl⟩, fun _ => KnRead.set HKr.out (RoomB.noInts HR1.out), HB1.out.grown (grown_setCells _ _ _ _) HB1.out.size (fun b' hb' => by cases hb'; omega)⟩
        clear hix HBad
        go_wp2
        refine bodyPost_ret (results_two rfl _ _ _ _ rfl (load78 HF2.out.at_)) rfl ?_
        exact R.out
  · obtain ⟨tt, uu, rfl⟩ := her.ne hn
    clear her
    go_upto_region 3 with fail
    generalize w1.alloc _ = W2 at HK0 HR1 HV1 HB1 HE HKn ⊢
    obtain ⟨d0, d1, d2, d3, d4, d5, d6, d7⟩ := HR1.out.eight
    have zf := HR1.out.fz
    have HFin : Hid (RoomB (W2.setCells (w.heap.size + 1) 0 (pthCs (slV nilA nilM nilM))) (w.heap.size + 1) (slV nilA nilM nilM)) := HR1.out.store _
    have hg := grown_setCells (w.heap.size + 1) (pthCs (slV nilA nilM nilM)) 0 W2
    have R : Hid (PtTold l c w (.returned (.tuple #[pthA (slV nilA nilM nilM), .iface tt uu])) (W2.setCells (w.heap.size + 1) 0 (pthCs (slV nilA nilM nilM)))) := ⟨nilA, nilM, nilM, _, n, pl, rfl, ⟨n, pl, HCk.out, .inl ⟨hn, rfl, rfl⟩⟩, HE.out.keep (fun g h1 h2 => hg.block g h1 (by simp; omega)) hg.size (fun x => RoomB.noInt HR1.out x), fun h => absurd h hn, HB1.out.grown hg HB1.out.size (fun b' hb' => by cases hb'; omega)⟩
    clear hix hg
    go_wp2
    refine bodyPost_ret (results_two rfl _ _ _ _ rfl (load78 HFin.out.at_)) rfl ?_
    exact R.out
end Go.Proofs.YtmonbkoelehdlaaDoor
