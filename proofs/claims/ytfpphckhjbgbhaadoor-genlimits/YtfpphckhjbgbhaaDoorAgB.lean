/-
  The statements' own made and sameCalls: walked.
-/
import Derived.Test.YtfpphckhjbgbhaaDoorAgA
namespace Go.Proofs.YtfpphckhjbgbhaaDoor.Gn
open Go.RowKit

theorem clCs_at : ∀ (L : List Cl) (i : Nat) (h : i < L.length), (clCs L)[i * 3]? = some (.bool L[i].wr) ∧ (clCs L)[i * 3 + 1]? = some (.int .i64 L[i].key) ∧ (clCs L)[i * 3 + 2]? = some (.int .i64 L[i].v)
  | [], _, h => absurd h (Nat.not_lt_zero _)
  | p :: ps, 0, _ => ⟨rfl, rfl, rfl⟩
  | p :: ps, i + 1, h => by
    have ih := clCs_at ps i (by simpa using h)
    have e : clCs (p :: ps) = .bool p.wr :: .int .i64 p.key :: .int .i64 p.v :: clCs ps := rfl
    rw [e, show (i + 1) * 3 = i * 3 + 3 by omega, show i * 3 + 3 + 1 = (i * 3 + 1) + 3 by omega, show i * 3 + 3 + 2 = (i * 3 + 2) + 3 by omega]
    exact ih
/-- Calls that can be read. -/
def ClQ (w : World) (v : Value) (L : List Cl) : Prop := ∃ a cap, v = .slice a L.length cap ∧ L.length ≤ cap ∧ (L = [] ∨ ∃ b, a = some ⟨b, 0, none⟩ ∧ b < w.heap.size ∧ ∀ i, (h : i < L.length) → w.cell? ⟨b, i * 3, none⟩ = some (.bool L[i].wr) ∧ w.cell? ⟨b, i * 3 + 1, none⟩ = some (.int .i64 L[i].key) ∧ w.cell? ⟨b, i * 3 + 2, none⟩ = some (.int .i64 L[i].v))
theorem clQ_of {w : World} {base : Nat} {v : Value} {L : List Cl} (h : w.ownsRow base 45 3 v L.length (clCs L)) : ClQ w v L := by
  obtain ⟨h1, ⟨rfl, h2⟩ | ⟨g, cap, cur, rfl, h3, h4, h5, h6, h7, h8⟩⟩ := id h
  · exact ⟨none, 0, by rw [h2], by omega, Or.inl (List.eq_nil_of_length_eq_zero h2)⟩
  · refine ⟨_, cap, rfl, h5, Or.inr ⟨g, rfl, (Array.getElem?_eq_some_iff.1 h4).1, fun i hi => ?_⟩⟩
    obtain ⟨k1, k2, k3⟩ := clCs_at L i hi
    exact ⟨(h.cellAt (i * 3) (by omega)).trans k1, (h.cellAt (i * 3 + 1) (by omega)).trans k2, (h.cellAt (i * 3 + 2) (by omega)).trans k3⟩
theorem ClQ.fr {w w' : World} {v : Value} {L : List Cl} (h : ClQ w v L) (hg : Fr [] w w') : ClQ w' v L := by
  obtain ⟨a, cap, h1, h2, h3⟩ := h
  refine ⟨a, cap, h1, h2, h3.imp id fun ⟨b, k1, k2, k3⟩ => ⟨b, k1, Nat.lt_of_lt_of_le k2 hg.size, fun i hi => ?_⟩⟩
  have e := hg.block b k2 (by simp)
  obtain ⟨q1, q2, q3⟩ := k3 i hi
  exact ⟨(World.cell?_of_block (a := ⟨b, i * 3, none⟩) e).trans q1, (World.cell?_of_block (a := ⟨b, i * 3 + 1, none⟩) e).trans q2, (World.cell?_of_block (a := ⟨b, i * 3 + 2, none⟩) e).trans q3⟩

set_option maxHeartbeats 8000000 in
set_option maxRecDepth 100000 in
/-- Calls that are the same are told so. -/
theorem sameCalls_any (L : List Cl) (v1 v2 : Value) (w : World) (h1 : ClQ w v1 L) (h2 : ClQ w v2 L) (hL : L.length ≤ 100000) :
    Calls Tryd.prog 9 #[v1, v2] w fun e w' => e = .returned (.bool true) ∧ Fr [] w w' := by
  obtain ⟨a1, c1, rfl, hc1, q1⟩ := h1
  obtain ⟨a2, c2, rfl, hc2, q2⟩ := h2
  have HQ1 := hideIt q1
  have HQ2 := hideIt q2
  clear q1 q2
  go_enter Tryd.func9, Tryd.ntmps9
  go_wp2
  go_loopg [5] L.length (fun k x wx => ∃ i, k + i = L.length ∧ x = .int .i64 (i : Nat) ∧ Fr [] w wx)
  case atStart => exact ⟨0, by simp, rfl, Fr.refl _ _⟩
  case round =>
    obtain ⟨i, hki, rfl, hfr⟩ := hrel
    have HF := hideIt hfr
    clear hfr
    cases gk with
    | zero =>
      have hge : ¬ (i : Int) < (L.length : Int) := by omega
      go_wp2
      go_ret
      exact ⟨rfl, HF.out⟩
    | succ k =>
      have hlt : (i : Int) < (L.length : Int) := by omega
      have hi : i < L.length := by omega
      have hne : L ≠ [] := fun e => by rw [e] at hi; exact absurd hi (Nat.not_lt_zero _)
      rcases HQ1.out with e | ⟨b1, rfl, k1, q1⟩
      · exact absurd e hne
      rcases HQ2.out with e | ⟨b2, rfl, k2, q2⟩
      · exact absurd e hne
      obtain ⟨x1, x2, x3⟩ := q1 i hi
      obtain ⟨y1, y2, y3⟩ := q2 i hi
      have e1 := HF.out.block b1 k1 (by simp)
      have e2 := HF.out.block b2 k2 (by simp)
      have r1 := (World.cell?_of_block (a := ⟨b1, i * 3, none⟩) e1).trans x1
      have r2 := (World.cell?_of_block (a := ⟨b1, i * 3 + 1, none⟩) e1).trans x2
      have r3 := (World.cell?_of_block (a := ⟨b1, i * 3 + 2, none⟩) e1).trans x3
      have s1 := (World.cell?_of_block (a := ⟨b2, i * 3, none⟩) e2).trans y1
      have s2 := (World.cell?_of_block (a := ⟨b2, i * 3 + 1, none⟩) e2).trans y2
      have s3 := (World.cell?_of_block (a := ⟨b2, i * 3 + 2, none⟩) e2).trans y3
      generalize L[i].wr = p1 at *
      generalize L[i].key = p2 at *
      generalize L[i].v = p3 at *
      clear HQ1 HQ2 q1 q2 x1 x2 x3 y1 y2 y3 e1 e2
      go_wp2_with fail
      go_quiet (fail)
      go_wp2
      go_roundg k
      case measure => omega
      case rel => exact ⟨i + 1, by omega, by simp, HF.out.trans (Fr.drewN _ _ _)⟩

def mdT : Bt := [108, 105, 109, 105, 116, 32, 50, 32, 114, 101, 97, 100, 32, 51]
theorem parse_mdT : parseF mdT = some (.lim (.rd 3) 2) := parse_made
theorem take_mdT : (takeF 20 5 (.lim (.rd 3) 2) ⟨[], 0⟩).l = [⟨false, 3, 0⟩, ⟨false, 3, 0⟩] := by rfl

set_option maxHeartbeats 8000000 in
set_option maxRecDepth 100000 in
theorem made_any (w : World) (hv : ErrV w) : Calls Tryd.prog 8 #[] w fun e w' => e = .returned (.bool true) ∧ Fr [] w w' := by
  have HP : Hid (Calls Tryd.prog 10 #[.string ⟨#[108, 105, 109, 105, 116, 32, 50, 32, 114, 101, 97, 100, 32, 51]⟩] w (PsTold mdT w)) := hideIt (parse_any mdT w hv)
  clear hv
  go_enter Tryd.func8, Tryd.ntmps8
  go_wp2_with fail
  refine HP.out.mono ?_
  rintro y w1 (⟨g, v, bs, h1, rfl, h2, h3⟩ | ⟨h1, T, x, rfl, h3⟩)
  · have hg : g = .lim (.rd 3) 2 := by rw [parse_mdT] at h1; exact (Option.some.inj h1).symm
    subst hg
    obtain ⟨T, x, F, hMt⟩ := met_of h2
    have hsh := hMt.shape
    subst hsh
    have hnil := hMt.nil
    have HMt := hideIt hMt
    have hws := h3.size
    have hnew := heap_new w1 (.cells #[.slice none 0 0, .int .i64 0] 40)
    have hal : Fr [] w1 (w1.alloc (.cells #[.slice none 0 0, .int .i64 0] 40)) := Fr.alloc _ _ _
    have hT : TpAt (w1.alloc (.cells #[.slice none 0 0, .int .i64 0] 40)) w.heap.size w1.heap.size 0 ⟨[], 0⟩ :=
      ⟨⟨none, 0, by rw [cell_of_row _ _ _ _ _ _ hnew]; rfl, Nat.le_refl _, .inl rfl⟩, by rw [cell_of_row _ _ _ _ _ _ hnew]; rfl, frozen_of_row _ _ _ _ _ hnew, hws⟩
    have HTk := hideIt (take_any 20 5 w.heap.size w1.heap.size 0 ⟨[], 0⟩ _ _ _ bs (h2.fr hal (by simp)) hT (fun e => by have := (h2.in_ _ e).2; omega) (by decide) (by decide))
    have HF1 := hideIt (h3.trans hal)
    have HBs : Hid (∀ b ∈ bs, w.heap.size ≤ b) := hideIt (fun b hb => (h2.in_ b hb).1)
    clear h2 h3 hT h1 hal hnew hMt
    go_wp2_with fail
    refine HTk.out.mono ?_
    rintro y w2 ⟨⟨sl, rfl, hrow⟩, _, _, hf2, _⟩
    have HF2 : Hid (Fr [] w w2) := hideIt (by
      have h := (HF1.out.more (Y := w1.heap.size :: bs) (by simp)).trans hf2
      exact ⟨h.os, h.tape, h.output, h.size, fun k hk _ => h.block k hk (fun e => by
        rcases List.mem_cons.1 e with e | e
        · omega
        · have := HBs.out k e; omega)⟩)
    rw [take_mdT] at hrow
    obtain ⟨a, cap, rfl, hcap, hc | ⟨b, rfl, hb, hc⟩⟩ := clQ_of hrow
    · cases hc
    obtain ⟨q1, q2, _⟩ := hc 0 (by decide)
    have r1 : w2.cell? ⟨b, 0, none⟩ = some (.bool false) := q1
    have r2 : w2.cell? ⟨b, 1, none⟩ = some (.int .i64 3) := q2
    clear hf2 hrow hc q1 q2
    go_wp2
    go_ret
    exact ⟨rfl, HF2.out⟩
  · rw [parse_mdT] at h1
    cases h1
end Go.Proofs.YtfpphckhjbgbhaaDoor.Gn
