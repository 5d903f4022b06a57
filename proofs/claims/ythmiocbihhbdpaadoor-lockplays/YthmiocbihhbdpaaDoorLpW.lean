/-
  The document's run, walked.
-/
import Derived.Test.YthmiocbihhbdpaaDoorLsW
import Derived.Test.YthmiocbihhbdpaaDoorLkPZ
import Derived.Test.YthmiocbihhbdpaaDoorGrMZ
namespace Go.Proofs.YthmiocbihhbdpaaDoor
open Go.RowKit

theorem chain9 (w : World) (o0 o1 o2 o3 o4 o5 o6 o7 o8 : Obj) : (((((((((w.alloc o0).alloc o1).alloc o2).alloc o3).alloc o4).alloc o5).alloc o6).alloc o7).alloc o8).heap.size = w.heap.size + 9 ∧
    (((((((((w.alloc o0).alloc o1).alloc o2).alloc o3).alloc o4).alloc o5).alloc o6).alloc o7).alloc o8).heap[w.heap.size]? = some o0 ∧ (((((((((w.alloc o0).alloc o1).alloc o2).alloc o3).alloc o4).alloc o5).alloc o6).alloc o7).alloc o8).heap[w.heap.size + 1]? = some o1 ∧ (((((((((w.alloc o0).alloc o1).alloc o2).alloc o3).alloc o4).alloc o5).alloc o6).alloc o7).alloc o8).heap[w.heap.size + 2]? = some o2 ∧ (((((((((w.alloc o0).alloc o1).alloc o2).alloc o3).alloc o4).alloc o5).alloc o6).alloc o7).alloc o8).heap[w.heap.size + 3]? = some o3 ∧ (((((((((w.alloc o0).alloc o1).alloc o2).alloc o3).alloc o4).alloc o5).alloc o6).alloc o7).alloc o8).heap[w.heap.size + 4]? = some o4 ∧ (((((((((w.alloc o0).alloc o1).alloc o2).alloc o3).alloc o4).alloc o5).alloc o6).alloc o7).alloc o8).heap[w.heap.size + 5]? = some o5 ∧ (((((((((w.alloc o0).alloc o1).alloc o2).alloc o3).alloc o4).alloc o5).alloc o6).alloc o7).alloc o8).heap[w.heap.size + 6]? = some o6 ∧ (((((((((w.alloc o0).alloc o1).alloc o2).alloc o3).alloc o4).alloc o5).alloc o6).alloc o7).alloc o8).heap[w.heap.size + 7]? = some o7 ∧ (((((((((w.alloc o0).alloc o1).alloc o2).alloc o3).alloc o4).alloc o5).alloc o6).alloc o7).alloc o8).heap[w.heap.size + 8]? = some o8 := by
  have e : (((((((((w.alloc o0).alloc o1).alloc o2).alloc o3).alloc o4).alloc o5).alloc o6).alloc o7).alloc o8).heap = (((((((((w.heap.push o0).push o1).push o2).push o3).push o4).push o5).push o6).push o7).push o8) := rfl
  rw [e]
  refine ⟨by simp, ?_, ?_, ?_, ?_, ?_, ?_, ?_, ?_, ?_⟩
  all_goals simp only [Array.getElem?_push, Array.size_push]
  all_goals repeat (first | rw [if_pos (by omega)] | rw [if_neg (by omega)])
  all_goals exact if_pos trivial
/-- What the run begins with. -/
theorem lk_start (w : World) (n : Nat) (pa : Option Addr) (pc : Nat) (W : World) (v : Value) (gs : List Nat) (hb : Below (((((((((w.alloc (.cells #[.slice pa n pc] 25)).alloc (.cells #[.slice none 0 0, .slice none 0 0, .slice none 0 0] 36)).alloc (.cells #[.int .i64 (n : Int)] 3)).alloc (.cells (madeCells #[.int .i64 0] n) 3)).alloc (.cells #[.slice none 0 0, .slice (some ⟨w.heap.size + 1 + 1 + 1, 0, none⟩) n n, .slice none 0 0] 36)).alloc (.cells (madeCells #[.bool false] n) 4)).alloc (.cells #[.slice (some ⟨w.heap.size + 1 + 1 + 1 + 1 + 1, 0, none⟩) n n] 52)).alloc (.cells (madeCells #[.int .i64 0] n) 3)).alloc (.cells #[.slice (some ⟨w.heap.size + 1 + 1 + 1 + 1 + 1 + 1 + 1, 0, none⟩) n n] 24)).heap.size (((((((((w.alloc (.cells #[.slice pa n pc] 25)).alloc (.cells #[.slice none 0 0, .slice none 0 0, .slice none 0 0] 36)).alloc (.cells #[.int .i64 (n : Int)] 3)).alloc (.cells (madeCells #[.int .i64 0] n) 3)).alloc (.cells #[.slice none 0 0, .slice (some ⟨w.heap.size + 1 + 1 + 1, 0, none⟩) n n, .slice none 0 0] 36)).alloc (.cells (madeCells #[.bool false] n) 4)).alloc (.cells #[.slice (some ⟨w.heap.size + 1 + 1 + 1 + 1 + 1, 0, none⟩) n n] 52)).alloc (.cells (madeCells #[.int .i64 0] n) 3)).alloc (.cells #[.slice (some ⟨w.heap.size + 1 + 1 + 1 + 1 + 1 + 1 + 1, 0, none⟩) n n] 24)) W) (hO : OutAt W (((((((((w.alloc (.cells #[.slice pa n pc] 25)).alloc (.cells #[.slice none 0 0, .slice none 0 0, .slice none 0 0] 36)).alloc (.cells #[.int .i64 (n : Int)] 3)).alloc (.cells (madeCells #[.int .i64 0] n) 3)).alloc (.cells #[.slice none 0 0, .slice (some ⟨w.heap.size + 1 + 1 + 1, 0, none⟩) n n, .slice none 0 0] 36)).alloc (.cells (madeCells #[.bool false] n) 4)).alloc (.cells #[.slice (some ⟨w.heap.size + 1 + 1 + 1 + 1 + 1, 0, none⟩) n n] 52)).alloc (.cells (madeCells #[.int .i64 0] n) 3)).alloc (.cells #[.slice (some ⟨w.heap.size + 1 + 1 + 1 + 1 + 1 + 1 + 1, 0, none⟩) n n] 24)).heap.size n v gs (fun _ _ => false)) (hg : gs.length = n) (hnd : gs.Nodup) (hn : 0 < n) :
    ∃ Bo oB cB rb, v = .slice (some ⟨Bo, oB, none⟩) n cB ∧ LkM w W.heap.size n (.slice pa n pc) (fnE w W.heap.size) ((W.alloc (.cells #[.slice (some ⟨Bo, oB, none⟩) n cB] 53)).alloc (.cells #[fnE w W.heap.size] 55)) lk0 (.slice none 0 0) (.slice none 0 0) Bo oB cB rb := by
  obtain ⟨c9, c0, c1, c2, c3, c4, c5, c6, c7, c8⟩ := chain9 w (.cells #[.slice pa n pc] 25) (.cells #[.slice none 0 0, .slice none 0 0, .slice none 0 0] 36) (.cells #[.int .i64 (n : Int)] 3) (.cells (madeCells #[.int .i64 0] n) 3) (.cells #[.slice none 0 0, .slice (some ⟨w.heap.size + 1 + 1 + 1, 0, none⟩) n n, .slice none 0 0] 36) (.cells (madeCells #[.bool false] n) 4) (.cells #[.slice (some ⟨w.heap.size + 1 + 1 + 1 + 1 + 1, 0, none⟩) n n] 52) (.cells (madeCells #[.int .i64 0] n) 3) (.cells #[.slice (some ⟨w.heap.size + 1 + 1 + 1 + 1 + 1 + 1 + 1, 0, none⟩) n n] 24)
  obtain ⟨Bo, oB, cB, rfl, hc, hm⟩ := moAt_out hO hg hnd hn
  rw [c9] at hm hb
  have hbw : Below w.heap.size w (((((((((w.alloc (.cells #[.slice pa n pc] 25)).alloc (.cells #[.slice none 0 0, .slice none 0 0, .slice none 0 0] 36)).alloc (.cells #[.int .i64 (n : Int)] 3)).alloc (.cells (madeCells #[.int .i64 0] n) 3)).alloc (.cells #[.slice none 0 0, .slice (some ⟨w.heap.size + 1 + 1 + 1, 0, none⟩) n n, .slice none 0 0] 36)).alloc (.cells (madeCells #[.bool false] n) 4)).alloc (.cells #[.slice (some ⟨w.heap.size + 1 + 1 + 1 + 1 + 1, 0, none⟩) n n] 52)).alloc (.cells (madeCells #[.int .i64 0] n) 3)).alloc (.cells #[.slice (some ⟨w.heap.size + 1 + 1 + 1 + 1 + 1 + 1 + 1, 0, none⟩) n n] 24)) := belA (belA (belA (belA (belA (belA (belA (belA (belA (Below.refl _ _) _) _) _) _) _) _) _) _) _
  generalize (((((((((w.alloc (.cells #[.slice pa n pc] 25)).alloc (.cells #[.slice none 0 0, .slice none 0 0, .slice none 0 0] 36)).alloc (.cells #[.int .i64 (n : Int)] 3)).alloc (.cells (madeCells #[.int .i64 0] n) 3)).alloc (.cells #[.slice none 0 0, .slice (some ⟨w.heap.size + 1 + 1 + 1, 0, none⟩) n n, .slice none 0 0] 36)).alloc (.cells (madeCells #[.bool false] n) 4)).alloc (.cells #[.slice (some ⟨w.heap.size + 1 + 1 + 1 + 1 + 1, 0, none⟩) n n] 52)).alloc (.cells (madeCells #[.int .i64 0] n) 3)).alloc (.cells #[.slice (some ⟨w.heap.size + 1 + 1 + 1 + 1 + 1 + 1 + 1, 0, none⟩) n n] 24)) = W9 at c9 c0 c1 c2 c3 c4 c5 c6 c7 c8 hb hbw
  have hk : ∀ b, b < w.heap.size + 9 → ((W.alloc (.cells #[.slice (some ⟨Bo, oB, none⟩) n cB] 53)).alloc (.cells #[fnE w W.heap.size] 55)).heap[b]? = W9.heap[b]? := fun b hlt => by
    have hs : w.heap.size + 9 ≤ W.heap.size := by have := hb.size; omega
    rw [Below.heap_alloc _ _ _ (by simp; omega), Below.heap_alloc _ _ _ (by omega)]
    exact hb.block b hlt
  have hs : w.heap.size + 9 ≤ W.heap.size := by have := hb.size; omega
  have hB1 : Below W.heap.size W ((W.alloc (.cells #[.slice (some ⟨Bo, oB, none⟩) n cB] 53)).alloc (.cells #[fnE w W.heap.size] 55)) := belA (belA (Below.refl _ _) _) _
  have hbW : Below w.heap.size w W := hbw.trans (hb.mono (by omega))
  refine ⟨Bo, oB, cB, _, rfl, ⟨belJ hbW hB1, hs, (hk _ (by omega)).trans c0, (hk _ (by omega)).trans c1, (hk _ (by omega)).trans c2, ?_, (hk _ (by omega)).trans c4, ?_, (hk _ (by omega)).trans c6, ?_, (hk _ (by omega)).trans c8, hm.below hB1, hc, ?_, ?_, World.ownsRow_nil _ _ _ _, rowAt_nil _ _⟩⟩
  · exact ⟨⟨_, (hk _ (by omega)).trans c3⟩, fun k hk' => by rw [cell_of_row _ _ _ _ 3 _ ((hk _ (by omega)).trans c3)]; exact made_one _ n k hk'⟩
  · exact ⟨⟨_, (hk _ (by omega)).trans c5⟩, fun k hk' => by rw [cell_of_row _ _ _ _ 4 _ ((hk _ (by omega)).trans c5)]; exact made_one _ n k hk'⟩
  · exact ⟨⟨_, (hk _ (by omega)).trans c7⟩, fun k hk' => by rw [cell_of_row _ _ _ _ 3 _ ((hk _ (by omega)).trans c7)]; exact made_one _ n k hk'⟩
  · rw [Below.heap_alloc _ _ _ (by simp)]
    exact heap_alloc_new W _
  · have := heap_alloc_new (W.alloc (.cells #[.slice (some ⟨Bo, oB, none⟩) n cB] 53)) (.cells #[fnE w W.heap.size] 55)
    rw [World.size_alloc] at this
    exact this
def doneN (b : Nat) (w : World) : Nat := match w.cell? ⟨b, 0, none⟩ with
  | some (.slice _ l _) => l
  | _ => 0
theorem doneN_at {w : World} {b l c : Nat} {a : Option Addr} (h : w.cell? ⟨b, 0, none⟩ = some (.slice a l c)) : doneN b w = l := by unfold doneN; rw [h]
theorem results_one {fn : Func} {p : Tmp} {ty : TypeId} (h : fn.results = #[.cell p ty]) (tmps : Array Value) (w : World) (g : Nat) (v : Value)
    (hp : tmps.getD p undef = .pointer (some ⟨g, 0, none⟩)) (hl : (loadVar ty ⟨g, 0, none⟩).run Tryd.prog w = .ok v w) : (results fn tmps).run Tryd.prog w = .ok v w := by
  have hp' : tmps[p]?.getD undef = .pointer (some ⟨g, 0, none⟩) := by simpa using hp
  simp [results, h, hp', asAddr, hl]
theorem tri36 {w : World} {g : Nat} {t : TypeId} {x y z : Value} (h : w.heap[g]? = some (.cells #[x, y, z] t (0, 0))) : (loadVar 36 ⟨g, 0, none⟩).run Tryd.prog w = .ok (.agg #[x, y, z]) w :=
  run_loadVar_mid w g 0 36 [x, y, z] _ (fun j v hv => by rw [Nat.zero_add, cell_of_row _ _ _ _ t _ h]; simpa using hv) Tryd.underlying36 rfl (by kernel_rfl)
/-- What is told at the end. -/
theorem pl_end {w W : World} {H n : Nat} {pv fe vd vv : Value} {st : LkS} {Bo oB cB : Nat} {rb : Nat → Nat} (h : LkM w H n pv fe W st vd vv Bo oB cB rb) (x y z : Value) :
    (loadVar 36 ⟨w.heap.size + 1, 0, none⟩).run Tryd.prog (((W.setCell ⟨w.heap.size + 1, 0, none⟩ x).setCell ⟨w.heap.size + 1, 1, none⟩ y).setCell ⟨w.heap.size + 1, 2, none⟩ z) = .ok (.agg #[x, y, z]) (((W.setCell ⟨w.heap.size + 1, 0, none⟩ x).setCell ⟨w.heap.size + 1, 1, none⟩ y).setCell ⟨w.heap.size + 1, 2, none⟩ z) ∧
      (((W.setCell ⟨w.heap.size + 1, 0, none⟩ x).setCell ⟨w.heap.size + 1, 1, none⟩ y).setCell ⟨w.heap.size + 1, 2, none⟩ z).ownsRow (w.heap.size + 9) 47 3 vd st.done.length (stpC st.done) ∧
      HasI (((W.setCell ⟨w.heap.size + 1, 0, none⟩ x).setCell ⟨w.heap.size + 1, 1, none⟩ y).setCell ⟨w.heap.size + 1, 2, none⟩ z) (.slice (some ⟨w.heap.size + 3, 0, none⟩) n n) ((List.range n).map fun t => (st.cnt t : Int)) ∧
      HasI (((W.setCell ⟨w.heap.size + 1, 0, none⟩ x).setCell ⟨w.heap.size + 1, 1, none⟩ y).setCell ⟨w.heap.size + 1, 2, none⟩ z) vv (natI st.vic) ∧ Below w.heap.size w (((W.setCell ⟨w.heap.size + 1, 0, none⟩ x).setCell ⟨w.heap.size + 1, 1, none⟩ y).setCell ⟨w.heap.size + 1, 2, none⟩ z) := by
  have hk : ∀ b, b ≠ w.heap.size + 1 → (((W.setCell ⟨w.heap.size + 1, 0, none⟩ x).setCell ⟨w.heap.size + 1, 1, none⟩ y).setCell ⟨w.heap.size + 1, 2, none⟩ z).heap[b]? = W.heap[b]? := fun b hb =>
    (Below.heap_setCell _ ⟨w.heap.size + 1, 2, none⟩ _ b hb).trans ((Below.heap_setCell _ ⟨w.heap.size + 1, 1, none⟩ _ b hb).trans (Below.heap_setCell _ ⟨w.heap.size + 1, 0, none⟩ _ b hb))
  have hr : (((W.setCell ⟨w.heap.size + 1, 0, none⟩ x).setCell ⟨w.heap.size + 1, 1, none⟩ y).setCell ⟨w.heap.size + 1, 2, none⟩ z).heap[w.heap.size + 1]? = some (.cells #[x, y, z] 36 (0, 0)) := by
    have h1 := heap_setCell_same W (w.heap.size + 1) 0 _ 36 x h.rs
    have h2 := heap_setCell_same _ (w.heap.size + 1) 1 _ 36 y h1
    have h3 := heap_setCell_same _ (w.heap.size + 1) 2 _ 36 z h2
    rw [h3]
    simp
  refine ⟨tri36 hr, ownsRow_same h.dn fun b hb => hk b (by have := (ownsRow_block h.dn b hb).1; omega), ?_, (h.vc.same_ fun b hb => hk b (by have := (h.vc.blk b hb).1; omega)).hasI, ?_⟩
  · have hc := h.cn.block (hk _ (by omega))
    refine ⟨some ⟨w.heap.size + 3, 0, none⟩, n, by simp, by simp, fun i hi => ⟨_, _, rfl, ?_⟩⟩
    have hi' : i < n := by simpa using hi
    rw [Nat.zero_add, hc.num i hi']
    simp
  · have hz : w.heap.size ≤ w.heap.size + 1 := by omega
    exact ((h.bel.setCell (p := ⟨w.heap.size + 1, 0, none⟩) hz _).setCell (p := ⟨w.heap.size + 1, 1, none⟩) hz _).setCell (p := ⟨w.heap.size + 1, 2, none⟩) hz _
/-- What a run tells. -/
def PlTold (p : List (List Stp)) (ks : List Int) (w : World) (e : Ending) (w' : World) : Prop :=
  ∃ a c vw vv, e = .returned (.agg #[.slice a (lkP p ks).done.length c, vw, vv]) ∧ (lkP p ks).done.length ≤ c ∧ StpsQ w' a (lkP p ks).done ∧ HasI w' vw ((List.range p.length).map fun t => ((lkP p ks).cnt t : Int)) ∧ HasI w' vv (natI (lkP p ks).vic) ∧ Below w.heap.size w w'

set_option maxRecDepth 100000 in
set_option maxHeartbeats 8000000 in
theorem play_any (p : List (List Stp)) (pa ka : Option Addr) (pc kc : Nat) (ks : List Int) (w : World) (hp : PlQ w pa p) (hpl : PlOk p) (hl : lefN p p.length lk0 ≤ 60) (hk : HasI w (.slice ka ks.length kc) ks) (hkl : ks.length ≤ 1000) (hn0 : 0 < p.length) :
    Calls Tryd.prog 8 #[.slice pa p.length pc, .slice ka ks.length kc] w fun e w' => PlTold p ks w e w' := by
  have h8 := hpl.few
  have HP := hideIt hp
  have HPl := hideIt hpl
  have HK := hideIt hk
  obtain ⟨n, hn⟩ : ∃ n, p.length = n := ⟨_, rfl⟩
  have HN := hideIt hn
  rw [hn] at h8 hl hn0 ⊢
  have hm1 : (Instr.makeSlice 24 (.int .i64 (n : Int)) (.int .i64 (n : Int))).run Tryd.prog (((w.alloc (.cells #[.slice pa n pc] 25)).alloc (.cells #[.slice none 0 0, .slice none 0 0, .slice none 0 0] 36)).alloc (.cells #[.int .i64 (n : Int)] 3)) = .ok (.slice (some ⟨w.heap.size + 1 + 1 + 1, 0, none⟩) n n) ((((w.alloc (.cells #[.slice pa n pc] 25)).alloc (.cells #[.slice none 0 0, .slice none 0 0, .slice none 0 0] 36)).alloc (.cells #[.int .i64 (n : Int)] 3)).alloc (.cells (madeCells #[.int .i64 0] n) 3)) := by
    have := made_nums (((w.alloc (.cells #[.slice pa n pc] 25)).alloc (.cells #[.slice none 0 0, .slice none 0 0, .slice none 0 0] 36)).alloc (.cells #[.int .i64 (n : Int)] 3)) n (by omega)
    rw [World.size_alloc, World.size_alloc, World.size_alloc] at this
    exact this
  have hm2 : (Instr.makeSlice 52 (.int .i64 (n : Int)) (.int .i64 (n : Int))).run Tryd.prog (((((w.alloc (.cells #[.slice pa n pc] 25)).alloc (.cells #[.slice none 0 0, .slice none 0 0, .slice none 0 0] 36)).alloc (.cells #[.int .i64 (n : Int)] 3)).alloc (.cells (madeCells #[.int .i64 0] n) 3)).alloc (.cells #[.slice none 0 0, .slice (some ⟨w.heap.size + 1 + 1 + 1, 0, none⟩) n n, .slice none 0 0] 36)) = .ok (.slice (some ⟨w.heap.size + 1 + 1 + 1 + 1 + 1, 0, none⟩) n n) ((((((w.alloc (.cells #[.slice pa n pc] 25)).alloc (.cells #[.slice none 0 0, .slice none 0 0, .slice none 0 0] 36)).alloc (.cells #[.int .i64 (n : Int)] 3)).alloc (.cells (madeCells #[.int .i64 0] n) 3)).alloc (.cells #[.slice none 0 0, .slice (some ⟨w.heap.size + 1 + 1 + 1, 0, none⟩) n n, .slice none 0 0] 36)).alloc (.cells (madeCells #[.bool false] n) 4)) := by
    have := made_bits (((((w.alloc (.cells #[.slice pa n pc] 25)).alloc (.cells #[.slice none 0 0, .slice none 0 0, .slice none 0 0] 36)).alloc (.cells #[.int .i64 (n : Int)] 3)).alloc (.cells (madeCells #[.int .i64 0] n) 3)).alloc (.cells #[.slice none 0 0, .slice (some ⟨w.heap.size + 1 + 1 + 1, 0, none⟩) n n, .slice none 0 0] 36)) n (by omega)
    rw [World.size_alloc, World.size_alloc, World.size_alloc, World.size_alloc, World.size_alloc] at this
    exact this
  have hm3 : (Instr.makeSlice 24 (.int .i64 (n : Int)) (.int .i64 (n : Int))).run Tryd.prog (((((((w.alloc (.cells #[.slice pa n pc] 25)).alloc (.cells #[.slice none 0 0, .slice none 0 0, .slice none 0 0] 36)).alloc (.cells #[.int .i64 (n : Int)] 3)).alloc (.cells (madeCells #[.int .i64 0] n) 3)).alloc (.cells #[.slice none 0 0, .slice (some ⟨w.heap.size + 1 + 1 + 1, 0, none⟩) n n, .slice none 0 0] 36)).alloc (.cells (madeCells #[.bool false] n) 4)).alloc (.cells #[.slice (some ⟨w.heap.size + 1 + 1 + 1 + 1 + 1, 0, none⟩) n n] 52)) = .ok (.slice (some ⟨w.heap.size + 1 + 1 + 1 + 1 + 1 + 1 + 1, 0, none⟩) n n) ((((((((w.alloc (.cells #[.slice pa n pc] 25)).alloc (.cells #[.slice none 0 0, .slice none 0 0, .slice none 0 0] 36)).alloc (.cells #[.int .i64 (n : Int)] 3)).alloc (.cells (madeCells #[.int .i64 0] n) 3)).alloc (.cells #[.slice none 0 0, .slice (some ⟨w.heap.size + 1 + 1 + 1, 0, none⟩) n n, .slice none 0 0] 36)).alloc (.cells (madeCells #[.bool false] n) 4)).alloc (.cells #[.slice (some ⟨w.heap.size + 1 + 1 + 1 + 1 + 1, 0, none⟩) n n] 52)).alloc (.cells (madeCells #[.int .i64 0] n) 3)) := by
    have := made_nums (((((((w.alloc (.cells #[.slice pa n pc] 25)).alloc (.cells #[.slice none 0 0, .slice none 0 0, .slice none 0 0] 36)).alloc (.cells #[.int .i64 (n : Int)] 3)).alloc (.cells (madeCells #[.int .i64 0] n) 3)).alloc (.cells #[.slice none 0 0, .slice (some ⟨w.heap.size + 1 + 1 + 1, 0, none⟩) n n, .slice none 0 0] 36)).alloc (.cells (madeCells #[.bool false] n) 4)).alloc (.cells #[.slice (some ⟨w.heap.size + 1 + 1 + 1 + 1 + 1, 0, none⟩) n n] 52)) n (by omega)
    rw [World.size_alloc, World.size_alloc, World.size_alloc, World.size_alloc, World.size_alloc, World.size_alloc, World.size_alloc] at this
    exact this
  clear hp hpl hk hn
  go_enter Tryd.func8, Tryd.ntmps8
  go_wp2_with fail
  clear hm1 hm2 hm3
  refine (blank_any n (by omega) _).mono ?_
  rintro e W10 ⟨v, gs, rfl, hOut, hgl, hnd, hb10⟩
  obtain ⟨Bo, oB, cB, rb, rfl, hM⟩ := lk_start w n pa pc W10 v gs hb10 hOut hgl hnd hn0
  clear hOut hgl hnd hb10
  have HM := hideIt hM
  clear hM
  go_upto_region 8 with fail
  simp only [Nat.add_assoc, Nat.reduceAdd]
  have HM2 : Hid (LkM w W10.heap.size n (.slice pa n pc) (fnE w W10.heap.size) ((W10.alloc (.cells #[.slice (some ⟨Bo, oB, none⟩) n cB] 53)).alloc (.cells #[.func (.func 15) #[] #[.pointer (some ⟨w.heap.size + 4, 0, none⟩), .pointer (some ⟨w.heap.size + 6, 0, none⟩), .pointer (some ⟨w.heap.size + 2, 0, none⟩), .pointer (some ⟨W10.heap.size, 0, none⟩)]] 55)) lk0 (.slice none 0 0) (.slice none 0 0) Bo oB cB rb) := HM.out
  clear HM
  generalize (W10.alloc (.cells #[.slice (some ⟨Bo, oB, none⟩) n cB] 53)).alloc _ = W12 at HM2 ⊢
  generalize W10.heap.size = H at HM2 ⊢
  have HI0 : Hid (∀ k, LkI p n (pkS p n lk0 (ks.take k))) := fun k => LkI.pk HPl.out HN.out.symm LkI.start
  have HC0 : Hid (∀ k, k ≤ ks.length → CtI k (pkS p n lk0 (ks.take k))) := fun k hk => by
    have := ct_pk (p := p) (n := n) (ks := ks.take k) (m := 0) (st := lk0) ⟨fun _ => Nat.le_refl _, Nat.le_refl _⟩
    rwa [Nat.zero_add, List.length_take, Nat.min_eq_left hk] at this
  go_wp2
  go_loopw [32] (fun i wr => ∃ (k : Nat) (vd vv : Value) (rb' : Nat → Nat), k ≤ ks.length ∧ i = .int .i64 k ∧ LkM w H n (.slice pa n pc) (fnE w H) wr (pkS p n lk0 (ks.take k)) vd vv Bo oB cB rb') (fun i _ => ks.length - (intOf i).toNat)
  case atStart => exact ⟨0, _, _, _, Nat.zero_le _, rfl, HM2.out⟩
  case round =>
    obtain ⟨k, vd, vv, rb1, hkk, rfl, hm⟩ := hrel
    replace HM2 := hideIt hm
    clear hm
    by_cases hin : k < ks.length
    · obtain ⟨b1, p1, e1, _, hr1⟩ := HK.out.below HM2.out.bel
      simp at e1
      obtain ⟨rfl, rfl⟩ := e1
      obtain ⟨g, off, rfl, x0⟩ := hr1 k hin
      have HTk : Hid (pkS p n lk0 (ks.take (k + 1)) = if 0 ≤ ks[k] ∧ ks[k] < n then goS p n (pkS p n lk0 (ks.take k)) ks[k].toNat else pkS p n lk0 (ks.take k)) := by
        show pkS p n lk0 (ks.take (k + 1)) = _
        rw [List.take_add_one, List.getElem?_eq_getElem hin]
        exact pkS_app _ _ _ _ _
      clear hr1
      generalize ks[k] = q at x0 HTk
      have c0 : wr.cell? ⟨w.heap.size + 2, 0, none⟩ = some (.int .i64 (n : Int)) := cell_of_row _ _ _ _ 3 _ HM2.out.bn
      by_cases hq : 0 ≤ q ∧ q < n
      · obtain ⟨hq0, hq1⟩ := hq
        rw [if_pos ⟨hq0, hq1⟩] at HTk
        obtain ⟨t, rfl⟩ := Int.eq_ofNat_of_zero_le hq0
        have ht : t < n := by omega
        rw [Int.toNat_natCast] at HTk
        have hb0 : ¬ (t : Int) < 0 := by omega
        have HSt := hideIt (step_any (pa := pa) (pc := pc) HP.out HPl.out HN.out.symm HM2.out (HI0.out k) hl t ht (by have := (HC0.out k (by omega)).cnt t; omega) (by have h1 := (HC0.out k (by omega)).vic; have h2 := (HI0.out k).len; omega))
        clear HM2
        go_wp2_with fail
        refine HSt.out.mono ?_
        rintro e W3 ⟨rfl, vd3, vv3, rb3, h3⟩
        have HM3 := hideIt (h3.eq HTk.out.symm)
        clear h3 HSt x0 c0 HTk
        go_wp2
        go_roundw
        case rel => exact ⟨k + 1, _, _, _, by omega, by go_num, HM3.out⟩
        case measure => simp [intOf]; omega
      · rw [if_neg hq] at HTk
        have HM3 := hideIt (HM2.out.eq HTk.out.symm)
        clear HM2 HTk
        by_cases hq0 : 0 ≤ q
        · have hq1 : ¬ q < (n : Int) := fun h => hq ⟨hq0, h⟩
          have hb0 : ¬ q < 0 := by omega
          clear hq
          go_wp2
          go_roundw
          case rel => exact ⟨k + 1, _, _, _, by omega, by go_num, HM3.out⟩
          case measure => simp [intOf]; omega
        · clear hq
          go_wp2
          go_roundw
          case rel => exact ⟨k + 1, _, _, _, by omega, by go_num, HM3.out⟩
          case measure => simp [intOf]; omega
    · have hke : k = ks.length := by omega
      have HE : Hid (ks.take k = ks) := by rw [hke]; exact List.take_length
      have HI := hideIt (HI0.out k)
      have HC : Hid (CtI (ks.length + (pkS p n lk0 ks).done.length) (pkS p n lk0 ks)) := by
        have := HC0.out k (by omega)
        rw [HE.out] at this
        exact ⟨fun u => by have := this.cnt u; omega, this.vic⟩
      rw [HE.out] at HM2 HI
      have HPl0 : Hid (plS p n (lefN p n lk0) (pkS p n lk0 ks) = lkP p ks) := by
        show plS p n (lefN p n lk0) (pkS p n lk0 ks) = plS p p.length (lefN p p.length lk0) (pkS p p.length lk0 ks)
        rw [HN.out]
      have HLe : Hid (lefN p n (pkS p n lk0 ks) ≤ lefN p n lk0) := by have := HI.out.len; show _ ≤ _; omega
      clear HE hke HI0 HC0 HK
      generalize pkS p n lk0 ks = st0 at HM2 HI HC HPl0 HLe
      go_wp2
      go_loopw [14] (fun l wr => ∃ (f : Nat) (st : LkS) (vd vv : Value) (rb' : Nat → Nat), plS p n f st = lkP p ks ∧ lefN p n st ≤ f ∧ LkI p n st ∧ CtI (ks.length + st.done.length) st ∧ LkM w H n (.slice pa n pc) (fnE w H) wr st vd vv Bo oB cB rb') (fun _ wr => 61 - doneN (w.heap.size + 4) wr)
      case atStart => exact ⟨_, _, _, _, _, HPl0.out, HLe.out, HI.out, HC.out, HM2.out⟩
      case round =>
        clear HPl0 HLe HI HC HM2
        obtain ⟨f, st, vd, vv, rb1, hpl0, hle, hi, hct, hm⟩ := hrel
        have HF := hideIt hpl0
        have HLe := hideIt hle
        have HI := hideIt hi
        have HC := hideIt hct
        have HM2 := hideIt hm
        have hd60 : st.done.length ≤ 60 := by have := hi.len; omega
        obtain ⟨va, vc, rfl⟩ := ownsRow_slice hm.dn
        have HD1 : Hid (doneN (w.heap.size + 4) wr = st.done.length) := doneN_at (cell_of_row _ _ _ _ 36 _ hm.bo)
        clear hpl0 hle hi hct hm
        have c0 : wr.cell? ⟨w.heap.size + 2, 0, none⟩ = some (.int .i64 (n : Int)) := cell_of_row _ _ _ _ 3 _ HM2.out.bn
        have c1 : wr.cell? ⟨w.heap.size + 6, 0, none⟩ = some (.slice (some ⟨w.heap.size + 5, 0, none⟩) n n) := cell_of_row _ _ _ _ 52 _ HM2.out.bv
        obtain ⟨wo, HWO⟩ : ∃ wo, Hid (wr = wo) := ⟨_, hideIt rfl⟩
        go_wp2
        go_loopw [14, 48] (fun l i wz => ∃ k : Nat, k ≤ n ∧ l = .bool (lftB st k) ∧ i = .int .i64 k ∧ wz = wo) (fun _ i _ => n - (intOf i).toNat)
        case atStart => exact ⟨0, Nat.zero_le _, rfl, rfl, HWO.out⟩
        case round =>
          obtain ⟨k, hk, rfl, rfl, hwz⟩ := hrel
          subst hwz
          rw [HWO.out] at c0 c1 HM2 HD1
          by_cases hin : k < n
          · have x0 := HM2.out.ov.bit k hin
            have HLs : Hid (lftB st (k + 1) = (lftB st k || !st.ov k)) := lftB_succ st k
            generalize lftB st k = lf at HLs ⊢
            cases lf
            · cases ho : st.ov k
              · rw [ho] at x0 HLs
                clear ho
                go_wp2
                go_roundw
                case rel => exact ⟨k + 1, by omega, congrArg Value.bool HLs.out.symm, by go_num, trivial⟩
                case measure => simp [intOf]; omega
              · rw [ho] at x0 HLs
                clear ho
                go_wp2
                go_roundw
                case rel => exact ⟨k + 1, by omega, congrArg Value.bool HLs.out.symm, by go_num, trivial⟩
                case measure => simp [intOf]; omega
            · go_wp2
              go_roundw
              case rel => exact ⟨k + 1, by omega, congrArg Value.bool HLs.out.symm, by go_num, trivial⟩
              case measure => simp [intOf]; omega
          · have hkn : k = n := by omega
            have HLa : Hid (lftB st k = !allO n st) := by rw [hkn]; exact lftB_all st n
            rw [HLa.out]
            clear HLa hkn
            cases ha : allO n st
            rotate_left 1
            · rw [Bool.not_true]
              have HSt : Hid (st = lkP p ks) := (plS_stop ha f).symm.trans HF.out
              obtain ⟨vb, vk, rfl⟩ := HM2.out.vc.slice
              have d0 : wr.cell? ⟨w.heap.size + 4, 0, none⟩ = some (.slice va st.done.length vc) := cell_of_row _ _ _ _ 36 _ HM2.out.bo
              have d1 : wr.cell? ⟨w.heap.size + 4, 1, none⟩ = some (.slice (some ⟨w.heap.size + 3, 0, none⟩) n n) := cell_of_row _ _ _ _ 36 _ HM2.out.bo
              have d2 : wr.cell? ⟨w.heap.size + 4, 2, none⟩ = some (.slice vb (natI st.vic).length vk) := cell_of_row _ _ _ _ 36 _ HM2.out.bo
              have e0 : wr.cell? ⟨w.heap.size + 1, 0, none⟩ = some (.slice none 0 0) := cell_of_row _ _ _ _ 36 _ HM2.out.rs
              have e1 : wr.cell? ⟨w.heap.size + 1, 1, none⟩ = some (.slice none 0 0) := cell_of_row _ _ _ _ 36 _ HM2.out.rs
              have e2 : wr.cell? ⟨w.heap.size + 1, 2, none⟩ = some (.slice none 0 0) := cell_of_row _ _ _ _ 36 _ HM2.out.rs
              have z0 : wr.frozen? ⟨w.heap.size + 1, 0, none⟩ = false := frozen_of_row _ _ _ _ 36 HM2.out.rs
              have z1 : wr.frozen? ⟨w.heap.size + 1, 1, none⟩ = false := frozen_of_row _ _ _ _ 36 HM2.out.rs
              have z2 : wr.frozen? ⟨w.heap.size + 1, 2, none⟩ = false := frozen_of_row _ _ _ _ 36 HM2.out.rs
              have HFin := hideIt (pl_end HM2.out (.slice va st.done.length vc) (.slice (some ⟨w.heap.size + 3, 0, none⟩) n n) (.slice vb (natI st.vic).length vk))
              clear HF HLe HI HC HD1 HWO ha
              go_wp2
              obtain ⟨q1, q2, q3, q4, q5⟩ := HFin.out
              refine bodyPost_ret (results_one rfl _ _ (w.heap.size + 1) _ rfl q1) rfl ?_
              obtain ⟨a', c', e', hc', hq'⟩ := stpsQ_own q2
              injection e' with ea' _ ec'
              subst ea' ec'
              refine ⟨va, vc, .slice (some ⟨w.heap.size + 3, 0, none⟩) n n, .slice vb (natI st.vic).length vk, ?_, ?_, ?_, ?_, ?_, q5⟩
              · rw [← HSt.out]
              · rw [← HSt.out]; exact hc'
              · rw [← HSt.out]; exact hq'
              · rw [← HSt.out, HN.out]; exact q3
              · rw [← HSt.out]; exact q4
            · rw [Bool.not_false]
              have HMid : Hid (∀ k, k ≤ n → LkI p n (rnK p n st k) ∧ CtI (ks.length + st.done.length + 1) (rnK p n st k)) := fun k hk => ⟨HI.out.rn HPl.out HN.out.symm hk, HC.out.mid hk⟩
              have HMore : Hid (st.done.length < (rnS p n st).done.length) := round_more HC.out ha
              have HLess : Hid (lefN p n (rnS p n st) < lefN p n st) := round_less HI.out.wt HI.out.pos ha
              have HGo : Hid (∀ f', f = f' + 1 → plS p n f' (rnS p n st) = lkP p ks) := fun f' e => by rw [← HF.out, e, plS_go ha]
              clear HF HI HC ha
              go_wp2
              clear c0 c1
              go_loopw [64] (fun i wy => ∃ (k : Nat) (vd vv : Value) (rb' : Nat → Nat), k ≤ n ∧ i = .int .i64 k ∧ LkM w H n (.slice pa n pc) (fnE w H) wy (rnK p n st k) vd vv Bo oB cB rb') (fun i _ => n - (intOf i).toNat)
              case atStart => exact ⟨0, _, _, _, Nat.zero_le _, rfl, HM2.out⟩
              case round =>
                clear HM2
                obtain ⟨m, vd, vv, rb2, hmn, rfl, hm⟩ := hrel
                have HM2 := hideIt hm
                clear hm
                by_cases hm1 : m < n
                · have HSt := hideIt (step_any (pa := pa) (pc := pc) HP.out HPl.out HN.out.symm HM2.out (HMid.out m hmn).1 hl m hm1 (by have := (HMid.out m hmn).2.cnt m; omega) (by have h1 := (HMid.out m hmn).2.vic; have h2 := (HMid.out m hmn).1.len; omega))
                  clear HM2
                  go_wp2_with fail
                  refine HSt.out.mono ?_
                  rintro e W3 ⟨rfl, vd3, vv3, rb3, h3⟩
                  have HM3 := hideIt (h3.eq (rnK_succ p n st m).symm)
                  clear h3 HSt
                  go_wp2
                  go_roundw
                  case rel => exact ⟨m + 1, _, _, _, by omega, by go_num, HM3.out⟩
                  case measure => simp [intOf]; omega
                · have hmm : m = n := by omega
                  have HM3 : Hid (LkM w H n (.slice pa n pc) (fnE w H) wr (rnS p n st) vd vv Bo oB cB rb2) := by
                    have := HM2.out
                    rw [hmm] at this
                    exact this
                  have HEnd : Hid (LkI p n (rnS p n st) ∧ CtI (ks.length + (rnS p n st).done.length) (rnS p n st)) := by
                    have h1 := HMid.out n (Nat.le_refl _)
                    have h2 : st.done.length < (rnS p n st).done.length := HMore.out
                    exact ⟨h1.1, ⟨fun u => by have := h1.2.cnt u; show (rnS p n st).cnt u ≤ _; have e : (rnS p n st).cnt u = (rnK p n st n).cnt u := rfl; omega, h1.2.vic⟩⟩
                  have HD2 : Hid (doneN (w.heap.size + 4) wr = (rnS p n st).done.length) := by
                    obtain ⟨a5, c5, e5⟩ := ownsRow_slice HM3.out.dn
                    have hb5 := HM3.out.bo
                    rw [e5] at hb5
                    exact doneN_at (cell_of_row _ _ _ _ 36 _ hb5)
                  obtain ⟨f', hf'⟩ : ∃ f', f = f' + 1 := ⟨f - 1, by have h1 := HLess.out; have h2 := HLe.out; omega⟩
                  clear HM2 hmm
                  go_wp2
                  go_roundw
                  case rel => exact ⟨f', rnS p n st, _, _, _, HGo.out f' hf', by have h1 := HLess.out; have h2 := HLe.out; omega, HEnd.out.1, HEnd.out.2, HM3.out⟩
                  case measure =>
                    have h1 := HD1.out
                    have h2 := HD2.out
                    have h3 := HMore.out
                    have h4 := HEnd.out.1.len
                    rw [HWO.out]
                    omega
end Go.Proofs.YthmiocbihhbdpaaDoor
