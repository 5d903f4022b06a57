/-
  GenTakes: the whole body.
-/
import Derived.Test.YthblokfiojccmaaGreatDoorGsW
import Derived.Test.YthblokfiojccmaaGreatDoorGtA
import Derived.Test.YthblokfiojccmaaGreatDoorUsW
import Derived.Test.YthblokfiojccmaaGreatDoorJaW
namespace Go.Proofs.YthblokfiojccmaaGreatDoor.Gn
open Go.RowKit

theorem infoDl : (Tryz.prog.info? 47).map (fun i => (i.zero, i.size, i.bytes)) = some (some (.agg #[.bool false, .int .i64 0, .int .i64 0]), 3, 24) := by kernel_rfl
/-- One more of the document's calls. -/
theorem call_append (w : World) (B0 : Nat) (kv : Value) (n : Nat) (xs : List Value) (q : Bool) (k v : Int) (h : w.ownsRow B0 47 3 kv n xs) (hb : B0 ≤ w.heap.size) (hn : n ≤ 2500) :
    ∃ g cap Y, (Builtin.append_ #[45, 45] 45 #[kv, .slice (some ⟨w.heap.size, 0, none⟩) 1 1]).run Tryz.prog (w.alloc (.cells #[.bool q, .int .i64 k, .int .i64 v] 47)) = .ok (.slice (some ⟨g, 0, none⟩) (n + 1) cap) Y ∧
      Y.ownsRow B0 47 3 (.slice (some ⟨g, 0, none⟩) (n + 1) cap) (n + 1) (xs ++ [.bool q, .int .i64 k, .int .i64 v]) ∧ (kv.ownBlock = some g ∨ w.heap.size ≤ g) ∧ Fr kv.ownBlock.toList w Y := by
  obtain ⟨i0, hi, hz0, hz1, hz2⟩ := info_parts' infoDl
  have hrow := h.alloc (.cells #[.bool q, .int .i64 k, .int .i64 v] 47)
  have hnew := heap_new w (.cells #[.bool q, .int .i64 k, .int .i64 v] 47)
  obtain ⟨v', Y, h1, h2, h3, _, h4⟩ := run_append_own_at (P := Tryz.prog) _ B0 45 45 47 i0 _ 3 24 Tryz.underlying45 hi hz0 hz1 hz2 rfl (by decide) kv n xs hrow ⟨w.heap.size, 0, none⟩ 1 1 [.bool q, .int .i64 k, .int .i64 v] rfl (fun j u hj => by
    match j, hj with
    | 0, hj => simp at hj; subst hj; rw [show (⟨w.heap.size, 0, none⟩ : Addr).add 0 = ⟨w.heap.size, 0, none⟩ from rfl, cell_of_row _ _ _ _ _ _ hnew]; rfl
    | 1, hj => simp at hj; subst hj; rw [show (⟨w.heap.size, 0, none⟩ : Addr).add 1 = ⟨w.heap.size, 1, none⟩ from rfl, cell_of_row _ _ _ _ _ _ hnew]; rfl
    | 2, hj => simp at hj; subst hj; rw [show (⟨w.heap.size, 0, none⟩ : Addr).add 2 = ⟨w.heap.size, 2, none⟩ from rfl, cell_of_row _ _ _ _ _ _ hnew]; rfl
    | n + 3, hj => simp at hj) (fun u hu => by simp at hu; rcases hu with e | e | e <;> (rw [e]; rfl)) (by unfold maxLen; omega) (by omega) (by rw [World.size_alloc]; omega)
  obtain ⟨g, cap, rfl, h5, h6, h7⟩ := own_form1 h2
  have hs := h3.size
  rw [World.size_alloc] at hs
  refine ⟨g, cap, Y, h1, h2, ?_, ⟨h3.os, h3.tape, h3.output, by omega, fun k hk hn => ?_⟩⟩
  · rcases h4 with e | e
    · exact .inl (e.symm.trans h7)
    · rw [h7] at e
      injection e with e
      rw [World.size_alloc] at e
      exact .inr (by omega)
  refine (h3.block k (by rw [World.size_alloc]; omega) (fun e => hn ?_)).trans (Below.heap_alloc _ _ _ hk)
  rw [← e]; simp

theorem clCs_at' : ∀ (L : List Cl) (i : Nat) (h : i < L.length), (clCs L)[i * 3]? = some (.bool L[i].wr) ∧ (clCs L)[i * 3 + 1]? = some (.int .i64 L[i].key) ∧ (clCs L)[i * 3 + 2]? = some (.int .i64 L[i].v)
  | [], _, h => absurd h (Nat.not_lt_zero _)
  | p :: ps, 0, _ => ⟨rfl, rfl, rfl⟩
  | p :: ps, i + 1, h => by
    have ih := clCs_at' ps i (by simpa using h)
    have e : clCs (p :: ps) = .bool p.wr :: .int .i64 p.key :: .int .i64 p.v :: clCs ps := rfl
    rw [e, show (i + 1) * 3 = i * 3 + 3 by omega, show i * 3 + 3 + 1 = (i * 3 + 1) + 3 by omega, show i * 3 + 3 + 2 = (i * 3 + 2) + 3 by omega]
    exact ih
/-- Calls that can be read. -/
def ClR (w : World) (v : Value) (L : List Cl) : Prop := ∃ a cap, v = .slice a L.length cap ∧ L.length ≤ cap ∧ (L = [] ∨ ∃ b, a = some ⟨b, 0, none⟩ ∧ b < w.heap.size ∧ ∀ i, (h : i < L.length) → w.cell? ⟨b, i * 3, none⟩ = some (.bool L[i].wr) ∧ w.cell? ⟨b, i * 3 + 1, none⟩ = some (.int .i64 L[i].key) ∧ w.cell? ⟨b, i * 3 + 2, none⟩ = some (.int .i64 L[i].v))
theorem clR_of {w : World} {base : Nat} {ty : TypeId} {v : Value} {L : List Cl} (h : w.ownsRow base ty 3 v L.length (clCs L)) : ClR w v L := by
  obtain ⟨h1, ⟨rfl, h2⟩ | ⟨g, cap, cur, rfl, h3, h4, h5, h6, h7, h8⟩⟩ := id h
  · exact ⟨none, 0, by rw [h2], by omega, Or.inl (List.eq_nil_of_length_eq_zero h2)⟩
  · refine ⟨_, cap, rfl, h5, Or.inr ⟨g, rfl, (Array.getElem?_eq_some_iff.1 h4).1, fun i hi => ?_⟩⟩
    obtain ⟨k1, k2, k3⟩ := clCs_at' L i hi
    exact ⟨(h.cellAt (i * 3) (by omega)).trans k1, (h.cellAt (i * 3 + 1) (by omega)).trans k2, (h.cellAt (i * 3 + 2) (by omega)).trans k3⟩

set_option maxHeartbeats 2000000 in
set_option maxRecDepth 100000 in
theorem takes_long (l : Bt) (xs : List Int) (v : Value) (most : Int) (w : World) (hq : InQ w v xs) (h : 2100 < l.length ∨ 200 < xs.length) :
    Calls Tryz.prog 3 #[.string (ba l), v, .int .i64 most] w fun e w' => e = .returned (.bool true) ∧ Fr [] w w' := by
  have hsz := ba_size l
  obtain ⟨a8, c8, rfl, _, _⟩ := hq
  by_cases h1 : 2100 < l.length
  · have h1' : (2100 : Int) < (l.length : Int) := by omega
    go_enter Tryz.func3, Tryz.ntmps3
    go_wp2
    go_ret
    exact ⟨rfl, Fr.refl _ _⟩
  · have h1' : decide ((2100 : Int) < (l.length : Int)) = false := decide_eq_false (by omega)
    have h2' : decide ((200 : Int) < (xs.length : Int)) = true := decide_eq_true (by omega)
    have h2 : (200 : Int) < (xs.length : Int) := by omega
    go_enter Tryz.func3, Tryz.ntmps3
    go_wp2
    go_ret
    exact ⟨rfl, Fr.refl _ _⟩

set_option maxHeartbeats 4000000 in
set_option maxRecDepth 100000 in
theorem takes_none (l : Bt) (xs : List Int) (v : Value) (most : Int) (w : World) (hv : ErrV w) (hp : PowT w) (hF : FineT w) (hq : InQ w v xs) (h1 : ¬ 2100 < l.length) (h2 : ¬ 200 < xs.length) (hn : parseF l = none) :
    Calls Tryz.prog 3 #[.string (ba l), v, .int .i64 most] w fun e w' => e = .returned (.bool true) ∧ Fr [] w w' := by
  have hsz := ba_size l
  have HD := hideIt (dparse_any l w hv hp hF)
  have HN := hideIt hn
  obtain ⟨a8, c8, rfl, _, _⟩ := hq
  have h1' : decide ((2100 : Int) < (l.length : Int)) = false := decide_eq_false (by omega)
  have h2' : decide ((200 : Int) < (xs.length : Int)) = false := decide_eq_false (by omega)
  clear hv hp hF hn h1 h2
  go_enter Tryz.func3, Tryz.ntmps3
  go_wp2_with fail
  refine HD.out.mono ?_
  rintro y w1 ⟨hf1, ⟨g, dv, bs, z, k1, _⟩ | ⟨_, x, fl, z, k1, rfl⟩⟩
  · rw [HN.out] at k1; cases k1
  have HF1 := hideIt hf1
  have hb : (fl != 0) = true := by simp [k1]
  clear hf1 HD
  go_wp2
  go_ret
  exact ⟨rfl, HF1.out.trans (Fr.alloc _ _ _)⟩

theorem glE_fr {w w' : World} (h : GlE w) (hf : Fr [] w w') : GlE w' := ⟨Nat.lt_of_lt_of_le h.1 hf.size, (World.cell?_of_block (a := ⟨1, 0, none⟩) (hf.block 1 h.1 (by simp))).trans h.2⟩

set_option maxHeartbeats 8000000 in
set_option maxRecDepth 100000 in
theorem takes_bad (l : Bt) (xs : List Int) (v : Value) (most : Int) (w : World) (hv : ErrV w) (hp : PowT w) (hF : FineT w) (hG : GlE w) (hq : InQ w v xs) (h1 : ¬ 2100 < l.length) (h2 : ¬ 200 < xs.length) (g : Gt) (hg : parseF l = some g) (hm : most < 0 ∨ 1000 < most) :
    Calls Tryz.prog 3 #[.string (ba l), v, .int .i64 most] w fun e w' => e = .returned (.bool true) ∧ Fr [] w w' := by
  have hsz := ba_size l
  have HD := hideIt (dparse_any l w hv hp hF)
  have HPs := hideIt (fun W (hV : ErrV W) => parse_any l W hV)
  have HN := hideIt hg
  have HV := hideIt hv
  have HGl := hideIt hG
  have HB := hideIt (fun W (hg : GlE W) => bare_any 2 W hg)
  have HTb := hideIt (fun T x a W => take_bad T x a most W hm)
  rw [show toldV 2 = .iface 24 (.int .i64 2) from rfl] at HB
  obtain ⟨a8, c8, rfl, _, _⟩ := hq
  have h1' : decide ((2100 : Int) < (l.length : Int)) = false := decide_eq_false (by omega)
  have h2' : decide ((200 : Int) < (xs.length : Int)) = false := decide_eq_false (by omega)
  have hmb : ∃ b1 b2 : Bool, decide (most < 0) = b1 ∧ decide (1000 < most) = b2 ∧ (b1 = true ∨ (b1 = false ∧ b2 = true)) := by
    by_cases h : most < 0
    · exact ⟨true, _, decide_eq_true h, rfl, .inl rfl⟩
    · exact ⟨false, true, decide_eq_false h, decide_eq_true (by omega), .inr ⟨rfl, rfl⟩⟩
  obtain ⟨b1, b2, e1, e2, hb⟩ := hmb
  clear hv hp hF hg hG h1 h2 hm
  go_enter Tryz.func3, Tryz.ntmps3
  go_wp2_with fail
  refine HD.out.mono ?_
  rintro y w1 ⟨hf1, ⟨g', dv, bs, z, k1, rfl, k2⟩ | ⟨k1, x, fl, z, _, _⟩⟩
  rotate_left 1
  · rw [HN.out] at k1; cases k1
  obtain ⟨db, rfl, _⟩ := k2.ptr
  have HF2 := hideIt (hf1.trans (Fr.alloc _ _ (.cells #[.int .i64 0, .int .i64 z] 26)))
  clear hf1 HD k1 k2
  go_wp2_with fail
  refine (HPs.out _ (HV.out.fr HF2.out (by simp) (by simp))).mono ?_
  rintro y w3 (⟨g4, vg, bs, k1, rfl, k2, k3⟩ | ⟨k1, _⟩)
  rotate_left 1
  · rw [HN.out] at k1; cases k1
  obtain ⟨T, x, F, hMt⟩ := met_of k2
  have hsh := hMt.shape
  subst hsh
  have hnil := hMt.nil
  have HF4 := hideIt ((HF2.out.trans k3).trans (Fr.alloc _ _ (.cells #[.slice a8 xs.length c8, .int .i64 0] 37)))
  clear k1 k2 k3 hMt
  go_wp2_with fail
  refine (HTb.out _ _ _ _).mono ?_
  rintro y w5 ⟨rfl, rfl⟩
  rcases hb with hb | ⟨hb, hb2⟩
  · subst hb
    go_wp2_with fail
    refine (HB.out _ (glE_fr HGl.out HF4.out)).mono ?_
    rintro y w6 ⟨rfl, hb6⟩
    have HF6 := hideIt (HF4.out.trans (Fr.ofBelow hb6))
    clear hb6
    go_wp2
    go_ret
    exact ⟨rfl, HF6.out⟩
  · subst hb hb2
    go_wp2_with fail
    refine (HB.out _ (glE_fr HGl.out HF4.out)).mono ?_
    rintro y w6 ⟨rfl, hb6⟩
    have HF6 := hideIt (HF4.out.trans (Fr.ofBelow hb6))
    clear hb6
    go_wp2
    go_ret
    exact ⟨rfl, HF6.out⟩
end Go.Proofs.YthblokfiojccmaaGreatDoor.Gn
