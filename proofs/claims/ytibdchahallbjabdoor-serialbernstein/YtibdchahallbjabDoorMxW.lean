/-
  The statements' fact 'mixes', walked: two transactions that cross.
-/
import Derived.Test.YtibdchahallbjabDoorRhW
namespace Go.Proofs.YtibdchahallbjabDoor
open Go.RowKit

def lMix : List Stp := [⟨0, 1, 0⟩, ⟨1, 2, 0⟩, ⟨1, 3, 0⟩, ⟨0, 2, 0⟩, ⟨0, 3, 0⟩]
def dMix : List Stp := [⟨0, 1, 0⟩, ⟨1, 2, 0⟩, ⟨0, 2, 0⟩]
def aMix (t u : Nat) : Bool := (t == 0 && u == 1) || (t == 1 && u == 0)
theorem done_mix : doneL lMix = dMix := rfl
theorem all_mix : ∀ k, k < 5 → fltQ lMix k = 0 := by decide
theorem ck_mix {n pl : Int} (h : CkS lMix n pl) : n = 0 ∧ pl = -1 :=
  h.one (.inr ⟨by decide, .inl ⟨fun k hk => all_mix k hk, rfl, rfl⟩⟩)
theorem sg_mix (t u : Nat) : SgK dMix 3 0 t u ↔ aMix t u = true := by
  unfold aMix
  constructor
  · rintro ⟨p, q, h1, h2, _, h4, h5, h6⟩
    have h2' : q < 3 := h2
    rcases (by omega : (p = 0 ∧ q = 1) ∨ (p = 0 ∧ q = 2) ∨ (p = 1 ∧ q = 2)) with ⟨rfl, rfl⟩ | ⟨rfl, rfl⟩ | ⟨rfl, rfl⟩
    · have e1 : (0 : Int) = t := h4
      have e2 : (1 : Int) = u := h5
      have : t = 0 := by omega
      have : u = 1 := by omega
      subst t u; rfl
    · cases h6
    · have e1 : (1 : Int) = t := h4
      have e2 : (0 : Int) = u := h5
      have : t = 1 := by omega
      have : u = 0 := by omega
      subst t u; rfl
  · intro h
    simp at h
    rcases h with ⟨rfl, rfl⟩ | ⟨rfl, rfl⟩
    · exact ⟨0, 1, by decide, by decide, .inl (by decide), rfl, rfl, rfl⟩
    · exact ⟨1, 2, by decide, by decide, .inl (by decide), rfl, rfl, rfl⟩
theorem sgR_mix : sgR lMix = matL aMix := (sgR_of (l := lMix) fun t u _ _ => by rw [done_mix]; exact (sg_mix t u).symm).symm
theorem sgO_mix : sgO lMix = none := by
  unfold sgO
  rw [sgR_mix]
  decide
theorem cyL_mix : cyL (sgR lMix) = [0, 1] := by
  rw [sgR_mix]
  decide

set_option maxRecDepth 100000 in
set_option maxHeartbeats 2000000 in
theorem mixes_any (w : World) (hg : TypAt w) : Calls Tryd.prog 19 #[] w fun e w' => e = .returned (.bool true) ∧ Below w.heap.size w w' := by
  have HT := hideIt hg
  obtain ⟨O, hO⟩ : ∃ O : Obj, O = .cells #[.int .i64 0, .int .i64 1, .int .i64 0, .int .i64 1, .int .i64 2, .int .i64 0, .int .i64 1, .int .i64 3, .int .i64 0, .int .i64 0, .int .i64 2, .int .i64 0, .int .i64 0, .int .i64 3, .int .i64 0] 40 := ⟨_, rfl⟩
  have HQ : Hid (StpsQ (w.alloc O) (some ⟨w.heap.size, 0, none⟩) lMix) := by
    have e := heap_alloc_new w O
    refine .inr ⟨w.heap.size, 0, rfl, by simp, fun k hk => ?_⟩
    subst hO
    match k, hk with
    | 0, _ => exact ⟨cell_of_row _ _ _ _ 40 _ e, cell_of_row _ _ _ _ 40 _ e, cell_of_row _ _ _ _ 40 _ e⟩
    | 1, _ => exact ⟨cell_of_row _ _ _ _ 40 _ e, cell_of_row _ _ _ _ 40 _ e, cell_of_row _ _ _ _ 40 _ e⟩
    | 2, _ => exact ⟨cell_of_row _ _ _ _ 40 _ e, cell_of_row _ _ _ _ 40 _ e, cell_of_row _ _ _ _ 40 _ e⟩
    | 3, _ => exact ⟨cell_of_row _ _ _ _ 40 _ e, cell_of_row _ _ _ _ 40 _ e, cell_of_row _ _ _ _ 40 _ e⟩
    | 4, _ => exact ⟨cell_of_row _ _ _ _ 40 _ e, cell_of_row _ _ _ _ 40 _ e, cell_of_row _ _ _ _ 40 _ e⟩
  have HB0 : Hid (Below w.heap.size w (w.alloc O)) := belA (Below.refl _ _) _
  have HC := hideIt (clashes_any lMix (some ⟨w.heap.size, 0, none⟩) 5 (w.alloc O) (by decide) HQ.out)
  rw [show lMix.length = 5 from rfl] at HC
  unfold ChTold at HC
  subst hO
  clear hg
  go_enter Tryd.func19, Tryd.ntmps19
  go_wp2_with fail
  refine HC.out.mono ?_
  clear HC
  rintro e w1 ⟨v1, v2, er, n, pl, rfl, hck, hb1, hcase⟩
  have HB1 := hideIt (belJ HB0.out hb1)
  obtain ⟨rfl, rfl⟩ := ck_mix hck
  clear hck hb1 HB0 HQ
  rcases hcase with ⟨h, _⟩ | ⟨_, L, h, _⟩ | ⟨_, _, rfl, hrow, rfl⟩
  · exact absurd rfl h
  · rw [sgO_mix] at h; cases h
  · rw [cyL_mix] at hrow
    obtain ⟨va, vc, rfl, hvc, hv⟩ := hrow.hasI
    obtain ⟨g0, o0, rfl, c0⟩ := hv 0 (by decide)
    obtain ⟨_, _, he, c1⟩ := hv 1 (by decide)
    cases he
    have ht : toldV 11 = .iface 25 (.int .i64 11) := rfl
    rw [ht]
    have hl2 : (natI [0, 1]).length = 2 := rfl
    have e0 : (natI [0, 1])[0]'(by decide) = 0 := rfl
    have e1 : (natI [0, 1])[1]'(by decide) = 1 := rfl
    rw [e0] at c0
    rw [e1] at c1
    rw [hl2]
    have hgl := World.block_lt_of_cell? w1 _ c0
    have HC := hideIt (tell_errno 11 w1 (HT.out.below HB1.out))
    clear hrow hv hl2 e0 e1
    go_wp2_with fail
    refine HC.out.mono ?_
    clear HC
    rintro e w2 ⟨rfl, hb2⟩
    have d0 := (hb2.cell (p := ⟨g0, o0 + 0, none⟩) hgl).trans c0
    have d1 := (hb2.cell (p := ⟨g0, o0 + 1, none⟩) hgl).trans c1
    rw [Nat.add_zero] at d0
    have HB2 := hideIt (belJ HB1.out hb2)
    clear hb2 c0 c1
    go_wp2
    go_ret
    exact ⟨rfl, HB2.out⟩
end Go.Proofs.YtibdchahallbjabDoor
