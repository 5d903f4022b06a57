/-
  Regions that draw their order, with loads whose cells a later store of the same region turns: all that waits for such a load is named (B); till one of B has come up a second condition is held. (Nothing of the program in it.)
  The document's net in memory: who can talk, and mails on their way.
-/
import Derived.Deep.RegionHeld3
import Derived.Test.YtncnojgemmcplaaGreatDoorBsGZ
import Derived.Laws.AppendOwn
namespace Go.Proofs.YtncnojgemmcplaaGreatDoor.St


section
variable {P : Program} {ops : Array Oper} {Q : Exit → Act → World → Prop} {md : Region.Mode} {B : List Nat} {S T : World → Prop}

/-- None of B has come up. -/
def Fresh (B : List Nat) (listed : Array Bool) : Prop := ∀ b ∈ B, listed.getD b true = false
def freshB (B : List Nat) (listed : Array Bool) : Bool := B.all fun b => !listed.getD b true
theorem fresh_iff {B : List Nat} {listed : Array Bool} : freshB B listed = true ↔ Fresh B listed := by simp [freshB, Fresh]
/-- Each of C waits for number i, or for another one of C. -/
def waitB (md : Region.Mode) (ops : Array Oper) (C : List Nat) (i : Nat) : Bool := C.all fun b => match ops[b]? with
  | some o => o.after.any fun e => Region.binds md e && (e.on == i || C.contains e.on)
  | none => false
def WaitC (md : Region.Mode) (ops : Array Oper) (C : List Nat) (i : Nat) : Prop := ∀ b ∈ C, ∃ o, ops[b]? = some o ∧ ∃ e ∈ o.after, Region.binds md e = true ∧ (e.on = i ∨ e.on ∈ C)
theorem wait_spec {C : List Nat} {i : Nat} (h : waitB md ops C i = true) : WaitC md ops C i := fun b hb => by
  have := List.all_eq_true.1 h b hb
  cases ho : ops[b]? with
  | none => rw [ho] at this; cases this
  | some o =>
    rw [ho] at this
    simp only [Array.any_eq_true'] at this
    obtain ⟨e, he, hp⟩ := this
    rw [Bool.and_eq_true, Bool.or_eq_true, beq_iff_eq, List.contains_iff_mem] at hp
    exact ⟨o, rfl, e, he, hp⟩

/-- In whatever order: S behind each, and T as long as none of B has come up. -/
def wpAnyL (P : Program) (md : Region.Mode) (ops : Array Oper) (Q : Exit → Act → World → Prop) (B : List Nat) (S T : World → Prop) : Nat → Array Bool → Act → World → Prop
  | 0, listed, a, w => Region.ready md ops listed = [] ∧ Q .normal a w
  | n + 1, listed, a, w => (Region.ready md ops listed = [] → Q .normal a w) ∧
    ∀ i ∈ Region.ready md ops listed, wpOp P ops Q i (fun a' w' => (S w' ∧ (Fresh B (listed.setIfInBounds i true) → T w')) ∧ wpAnyL P md ops Q B S T n (listed.setIfInBounds i true) a' w') a w
theorem wpAny_of_L : ∀ (n : Nat) (listed : Array Bool) (a : Act) (w : World), wpAnyL P md ops Q B S T n listed a w → wpAny P md ops Q n listed a w
  | 0, _, _, _, h => h
  | n + 1, _, _, _, h => ⟨h.1, fun i hi => wpOp_mono (fun a' w' h' => wpAny_of_L n _ a' w' h'.2) (h.2 i hi)⟩

theorem unlisted {i : Nat} {listed : Array Bool} (h0 : listed.getD i true = false) : listed.getD i false = false := by
  rcases Nat.lt_or_ge i listed.size with h' | h'
  · simp [h'] at h0 ⊢; exact h0
  · simp [Array.getElem?_eq_none h']
theorem WaitC.not_ready {C : List Nat} {i j : Nat} {listed : Array Bool} (h : WaitC md ops C i) (hi : listed.getD i true = false) (hF : Fresh C listed) (hj : j ∈ Region.ready md ops listed) : j ∉ C := fun hm => by
  obtain ⟨o, ho, x, hx, hb, hon⟩ := h j hm
  obtain ⟨_, o', ho', hall⟩ := mem_ready.1 hj
  rw [ho'] at ho
  obtain rfl := Option.some.inj ho
  have h1 := hall x hx hb
  rcases hon with e | e
  · rw [e, unlisted hi] at h1; cases h1
  · rw [unlisted (hF _ e)] at h1; cases h1

theorem wpAnyL_first {C : List Nat} {i : Nat} {oi : Oper} {v : Value} (hi : ops[i]? = some oi) (hsel : ∀ (j : Nat) (o : Oper) cs b, ops[j]? = some o → o.op ≠ .select cs b)
    (hQ : ∀ c a w, Q (.panic c) (a.put oi.dst v) w → Q (.panic c) a w) (hC : WaitC md ops C i) (hBC : ∀ b ∈ B, b ∈ C) :
    ∀ (n : Nat) (listed : Array Bool) (a : Act) (w : World),
      (∀ j oj, ops[j]? = some oj → j ≠ i → listed.getD j true = false → (∀ e ∈ oj.after, Region.binds md e = true → e.on ≠ i) → oi.apart ops oj = true) →
      i ∈ Region.ready md ops listed → Fresh C listed → YieldsIf P ops (fun w => S w ∧ T w) oi v a → S w ∧ T w →
      wpAnyL P md ops Q B S T n (listed.setIfInBounds i true) (a.put oi.dst v) w → wpAnyL P md ops Q B S T (n + 1) listed a w := by
  intro n
  induction n with
  | zero =>
    intro listed a w _ hr _ hy hS H
    refine ⟨fun h => (by rw [h] at hr; cases hr), fun j hj => ?_⟩
    by_cases e : j = i
    · subst e; exact hy.wpOp hi hS ⟨⟨hS.1, fun _ => hS.2⟩, H⟩
    · have := ready_mono hj e
      rw [H.1] at this
      cases this
  | succ n ih =>
    intro listed a w hfree hr hF hy hS H
    refine ⟨fun h => (by rw [h] at hr; cases hr), fun j hj => ?_⟩
    by_cases e : j = i
    · subst e; exact hy.wpOp hi hS ⟨⟨hS.1, fun _ => hS.2⟩, H⟩
    · obtain ⟨hju, oj, hoj, hall⟩ := mem_ready.1 hj
      have hiu := (mem_ready.1 hr).1
      have hun := unlisted hiu
      have hno : ∀ x ∈ oj.after, Region.binds md x = true → x.on ≠ i := fun x hx hb he => by
        have := hall x hx hb
        rw [he, hun] at this
        cases this
      have hjC : j ∉ C := hC.not_ready hiu hF hj
      have hiC : i ∉ C := hC.not_ready hiu hF hr
      have hF1 : Fresh C (listed.setIfInBounds j true) := fun b hb => by
        have e1 : j ≠ b := fun h => hjC (by rw [h]; exact hb)
        rw [getD_set_ne true e1]; exact hF b hb
      have hF2 : Fresh B ((listed.setIfInBounds i true).setIfInBounds j true) := fun b hb => by
        have e1 : j ≠ b := fun h => hjC (by rw [h]; exact hBC b hb)
        have e2 : i ≠ b := fun h => hiC (by rw [h]; exact hBC b hb)
        rw [getD_set_ne true e1, getD_set_ne true e2]; exact hF b (hBC b hb)
      have h2 := wpOp_putIf hoj (hfree j oj hoj e hju hno) (fun cs b => hsel i oi cs b hi) (fun cs b => hsel j oj cs b hoj) hQ hy (H.2 j (ready_mono hj e))
      refine wpOp_mono (fun a' w' h3 => ?_) h2
      have hST : S w' ∧ T w' := ⟨h3.2.1.1, h3.2.1.2 hF2⟩
      refine ⟨⟨hST.1, fun _ => hST.2⟩, ih _ a' w' (fun k ok hk hki hkl hkn => hfree k ok hk hki ?_ hkn) (ready_mono hr (Ne.symm e)) hF1 h3.1 hST ?_⟩
      · by_cases hjk : j = k
        · subst hjk; exact hju
        · rw [getD_set_ne true hjk] at hkl; exact hkl
      · rw [Array.setIfInBounds_comm _ _ e]
        exact h3.2.2

/-- Number i is taken first: a load, say, whose cell no one turns but those of B, who wait for it (C: by way of whom). -/
theorem wpAnyL_take (C : List Nat) {i : Nat} {oi : Oper} {v : Value} {n : Nat} {listed : Array Bool} {a : Act} {w : World} (hi : ops[i]? = some oi)
    (hs : Region.noSelect ops = true) (hf : Region.free md ops listed i = true) (hr : (Region.ready md ops listed).contains i = true) (hC : (waitB md ops C i && B.all C.contains && freshB C listed) = true)
    (hQ : ∀ c a w, Q (.panic c) (a.put oi.dst v) w → Q (.panic c) a w) (hy : YieldsIf P ops (fun w => S w ∧ T w) oi v a) (hS : S w ∧ T w)
    (h : wpAnyL P md ops Q B S T n (listed.setIfInBounds i true) (a.put oi.dst v) w) : wpAnyL P md ops Q B S T (n + 1) listed a w := by
  rw [Bool.and_eq_true, Bool.and_eq_true] at hC
  exact wpAnyL_first hi (Region.noSelect_spec hs) hQ (wait_spec hC.1.1) (fun b hb => by simpa using List.all_eq_true.1 hC.1.2 b hb) n listed a w (Region.free_spec hi hf) (by simpa using hr) (fresh_iff.1 hC.2) hy hS h

/-- Number i, none of B, is taken first, where S alone is enough for it. -/
theorem wpAnyL_firstS {i : Nat} {oi : Oper} {v : Value} (hi : ops[i]? = some oi) (hsel : ∀ (j : Nat) (o : Oper) cs b, ops[j]? = some o → o.op ≠ .select cs b)
    (hQ : ∀ c a w, Q (.panic c) (a.put oi.dst v) w → Q (.panic c) a w) (hB : i ∉ B) :
    ∀ (n : Nat) (listed : Array Bool) (a : Act) (w : World),
      (∀ j oj, ops[j]? = some oj → j ≠ i → listed.getD j true = false → (∀ e ∈ oj.after, Region.binds md e = true → e.on ≠ i) → oi.apart ops oj = true) →
      i ∈ Region.ready md ops listed → YieldsIf P ops S oi v a → S w → (Fresh B listed → T w) →
      wpAnyL P md ops Q B S T n (listed.setIfInBounds i true) (a.put oi.dst v) w → wpAnyL P md ops Q B S T (n + 1) listed a w := by
  have hback : ∀ listed, Fresh B (listed.setIfInBounds i true) → Fresh B listed := fun listed h b hb => by
    have e2 : i ≠ b := fun h => hB (by rw [h]; exact hb)
    have := h b hb
    rwa [getD_set_ne true e2] at this
  intro n
  induction n with
  | zero =>
    intro listed a w _ hr hy hS hT H
    refine ⟨fun h => (by rw [h] at hr; cases hr), fun j hj => ?_⟩
    by_cases e : j = i
    · subst e; exact hy.wpOp hi hS ⟨⟨hS, fun hf => hT (hback _ hf)⟩, H⟩
    · have := ready_mono hj e
      rw [H.1] at this
      cases this
  | succ n ih =>
    intro listed a w hfree hr hy hS hT H
    refine ⟨fun h => (by rw [h] at hr; cases hr), fun j hj => ?_⟩
    by_cases e : j = i
    · subst e; exact hy.wpOp hi hS ⟨⟨hS, fun hf => hT (hback _ hf)⟩, H⟩
    · obtain ⟨hju, oj, hoj, hall⟩ := mem_ready.1 hj
      have hun := unlisted (mem_ready.1 hr).1
      have hno : ∀ x ∈ oj.after, Region.binds md x = true → x.on ≠ i := fun x hx hb he => by
        have := hall x hx hb
        rw [he, hun] at this
        cases this
      have hF2 : Fresh B (listed.setIfInBounds j true) → Fresh B ((listed.setIfInBounds i true).setIfInBounds j true) := fun h b hb => by
        have e2 : i ≠ b := fun h => hB (by rw [h]; exact hb)
        rw [Array.setIfInBounds_comm _ _ (Ne.symm e), getD_set_ne true e2]; exact h b hb
      have h2 := wpOp_putIf hoj (hfree j oj hoj e hju hno) (fun cs b => hsel i oi cs b hi) (fun cs b => hsel j oj cs b hoj) hQ hy (H.2 j (ready_mono hj e))
      refine wpOp_mono (fun a' w' h3 => ?_) h2
      refine ⟨⟨h3.2.1.1, fun hf => h3.2.1.2 (hF2 hf)⟩, ih _ a' w' (fun k ok hk hki hkl hkn => hfree k ok hk hki ?_ hkn) (ready_mono hr (Ne.symm e)) h3.1 h3.2.1.1 (fun hf => h3.2.1.2 (hF2 hf)) ?_⟩
      · by_cases hjk : j = k
        · subst hjk; exact hju
        · rw [getD_set_ne true hjk] at hkl; exact hkl
      · rw [Array.setIfInBounds_comm _ _ e]
        exact h3.2.2
/-- Such a one, while none of B has come up. -/
theorem wpAnyL_takeS {i : Nat} {oi : Oper} {v : Value} {n : Nat} {listed : Array Bool} {a : Act} {w : World} (hi : ops[i]? = some oi)
    (hs : Region.noSelect ops = true) (hf : Region.free md ops listed i = true) (hr : (Region.ready md ops listed).contains i = true) (hB : B.contains i = false)
    (hQ : ∀ c a w, Q (.panic c) (a.put oi.dst v) w → Q (.panic c) a w) (hy : YieldsIf P ops S oi v a) (hS : S w ∧ T w)
    (h : wpAnyL P md ops Q B S T n (listed.setIfInBounds i true) (a.put oi.dst v) w) : wpAnyL P md ops Q B S T (n + 1) listed a w :=
  wpAnyL_firstS hi (Region.noSelect_spec hs) hQ (by simpa using hB) n listed a w (Region.free_spec hi hf) (by simpa using hr) hy hS.1 (fun _ => hS.2) h
/-- Such a one, when one of B has come up. -/
theorem wpAnyL_takeE {i : Nat} {oi : Oper} {v : Value} {n : Nat} {listed : Array Bool} {a : Act} {w : World} (hi : ops[i]? = some oi)
    (hs : Region.noSelect ops = true) (hf : Region.free md ops listed i = true) (hr : (Region.ready md ops listed).contains i = true) (hB : B.contains i = false) (hF : freshB B listed = false)
    (hQ : ∀ c a w, Q (.panic c) (a.put oi.dst v) w → Q (.panic c) a w) (hy : YieldsIf P ops S oi v a) (hS : S w)
    (h : wpAnyL P md ops Q B S T n (listed.setIfInBounds i true) (a.put oi.dst v) w) : wpAnyL P md ops Q B S T (n + 1) listed a w :=
  wpAnyL_firstS hi (Region.noSelect_spec hs) hQ (by simpa using hB) n listed a w (Region.free_spec hi hf) (by simpa using hr) hy hS (fun hf => by rw [fresh_iff.2 hf] at hF; cases hF) h

def AllReadyL (P : Program) (md : Region.Mode) (ops : Array Oper) (Q : Exit → Act → World → Prop) (B : List Nat) (S T : World → Prop) (n : Nat) (listed : Array Bool) (a : Act) (w : World) (rs : List Nat) : Prop :=
  ∀ i ∈ rs, wpOp P ops Q i (fun a' w' => (S w' ∧ (Fresh B (listed.setIfInBounds i true) → T w')) ∧ wpAnyL P md ops Q B S T n (listed.setIfInBounds i true) a' w') a w
theorem AllReadyL.nil {n : Nat} {listed : Array Bool} {a : Act} {w : World} : AllReadyL P md ops Q B S T n listed a w [] := fun _ h => by cases h
/-- Number i comes up while none of B has: S and T behind it. -/
theorem AllReadyL.cons {n : Nat} {listed : Array Bool} {a : Act} {w : World} {i : Nat} {o : Oper} {rs : List Nat} (ho : ops[i]? = some o)
    (h : ∀ K' : Act → World → Prop, Shut (∀ a w, S w ∧ T w → (S w ∧ T w → wpAnyL P md ops Q B S T n (listed.setIfInBounds i true) a w) → K' a w) → if Region.wanted o (yielded ops a.tmps) = true then Oper.wp P o a w K' Q else K' (a.put o.dst undef) w)
    (hs : AllReadyL P md ops Q B S T n listed a w rs) : AllReadyL P md ops Q B S T n listed a w (i :: rs) := fun j hj => by
  rcases List.mem_cons.1 hj with rfl | hj
  · exact wpOp_step ho fun K' hK => h K' fun a w hST hW => hK a w ⟨⟨hST.1, fun _ => hST.2⟩, hW hST⟩
  · exact hs j hj
/-- One of B comes up, or has: S alone behind it. -/
theorem AllReadyL.last {n : Nat} {listed : Array Bool} {a : Act} {w : World} {i : Nat} {o : Oper} {rs : List Nat} (ho : ops[i]? = some o) (hF : freshB B (listed.setIfInBounds i true) = false)
    (h : ∀ K' : Act → World → Prop, Shut (∀ a w, S w → (S w → wpAnyL P md ops Q B S T n (listed.setIfInBounds i true) a w) → K' a w) → if Region.wanted o (yielded ops a.tmps) = true then Oper.wp P o a w K' Q else K' (a.put o.dst undef) w)
    (hs : AllReadyL P md ops Q B S T n listed a w rs) : AllReadyL P md ops Q B S T n listed a w (i :: rs) := fun j hj => by
  rcases List.mem_cons.1 hj with rfl | hj
  · exact wpOp_step ho fun K' hK => h K' fun a w hS hW => hK a w ⟨⟨hS, fun hf => by rw [fresh_iff.2 hf] at hF; cases hF⟩, hW hS⟩
  · exact hs j hj
theorem wpAnyL_ready {rs : List Nat} {n : Nat} {listed : Array Bool} {a : Act} {w : World} (hr : Region.ready md ops listed = rs) (hne : rs ≠ []) (h : AllReadyL P md ops Q B S T n listed a w rs) : wpAnyL P md ops Q B S T (n + 1) listed a w :=
  ⟨fun h0 => absurd (hr ▸ h0) hne, hr ▸ h⟩
theorem wpAnyL_done {listed : Array Bool} {a : Act} {w : World} (hr : Region.ready md ops listed = []) (h : Q .normal a w) : ∀ n, wpAnyL P md ops Q B S T n listed a w
  | 0 => ⟨hr, h⟩
  | _ + 1 => ⟨fun _ => h, by rw [hr]; simp⟩
theorem wp_region_L {id : Nat} {a : Act} {w : World} (hm : P.follows .mixedOrders = true) (hS : S w.drew ∧ T w.drew)
    (h : S w.drew ∧ T w.drew → wpAnyL P .any ops Q B S T ops.size (Array.replicate ops.size false) a w.drew) : (Code.region id ops true).wp P Q a w :=
  wp_region_any hm (wpAny_of_L _ _ _ _ (h hS))
end
end Go.Proofs.YtncnojgemmcplaaGreatDoor.St

namespace Go.Proofs.YtncnojgemmcplaaGreatDoor.St.Dc
open Go.RowKit

/-- A mail of the document's. -/
structure Md where
  fr : Int
  to : Int
  wh : Int
def mdC (m : Md) : List Value := [.int .i64 m.fr, .int .i64 m.to, .int .i64 m.wh]
def mdCs (L : List Md) : List Value := L.flatMap mdC
theorem mdCs_app (L M : List Md) : mdCs (L ++ M) = mdCs L ++ mdCs M := by simp [mdCs]
theorem mdCs_one (m : Md) : mdCs [m] = mdC m := by simp [mdCs]
theorem mdCs_len (L : List Md) : (mdCs L).length = L.length * 3 := by
  induction L with
  | nil => rfl
  | cons m L ih => rw [show m :: L = [m] ++ L from rfl, mdCs_app, List.length_append, ih, mdCs_one]; simp [mdC]; omega
theorem mdC_one {m : Md} {u : Value} (h : u ∈ mdC m) : u.oneCell' = true := by
  simp [mdC] at h
  rcases h with rfl | rfl | rfl <;> rfl
theorem info49 : (Tryz.prog.info? 140).map (fun i => (i.zero, i.size, i.bytes)) = some (some (Value.agg #[.int .i64 0, .int .i64 0, .int .i64 0]), 3, 24) := by kernel_rfl

theorem blk3 {w : World} {b : Nat} {v u x : Value} {t : TypeId} (h : w.heap[b]? = some (.cells #[v, u, x] t)) : w.cell? ⟨b, 0, none⟩ = some v ∧ w.cell? ⟨b, 1, none⟩ = some u ∧ w.cell? ⟨b, 2, none⟩ = some x :=
  ⟨by rw [cell_of_row _ _ _ _ t _ h]; rfl, by rw [cell_of_row _ _ _ _ t _ h]; rfl, by rw [cell_of_row _ _ _ _ t _ h]; rfl⟩
/-- What turns in new blocks alone. -/
theorem grown_past {w w1 w2 : World} {row : Option Nat} (h : w.grownBy w1 none) (h' : w1.grownBy w2 row) (hr : ∀ b, row = some b → w.heap.size ≤ b) : w.grownBy w2 none :=
  ⟨h'.os.trans h.os, h'.tape.trans h.tape, h'.output.trans h.output, Nat.le_trans h.size h'.size, fun k hk _ => (h'.block k (Nat.lt_of_lt_of_le hk h.size) (fun e => by have := hr k e.symm; omega)).trans (h.block k hk (by simp))⟩
theorem mdCs_take {L : List Md} {k j : Nat} {u : Value} (h : (mdCs (L.take k))[j]? = some u) : (mdCs L)[j]? = some u := by
  rw [← List.take_append_drop k L, mdCs_app, List.getElem?_append_left (List.getElem?_eq_some_iff.1 h).1]
  exact h
theorem mdCs_drop {L : List Md} {k j : Nat} (hk : k ≤ L.length) {u : Value} (h : (mdCs (L.drop k))[j]? = some u) : (mdCs L)[k * 3 + j]? = some u := by
  have hl : (mdCs (L.take k)).length = k * 3 := by rw [mdCs_len, List.length_take, Nat.min_eq_left hk]
  rw [← List.take_append_drop k L, mdCs_app, List.getElem?_append_right (by omega), hl, show k * 3 + j - k * 3 = j by omega]
  exact h
theorem mdCs_ones {L : List Md} {u : Value} (h : u ∈ mdCs L) : u.oneCell' = true := by
  obtain ⟨m, _, hm⟩ := List.mem_flatMap.1 h
  exact mdC_one hm
theorem blkA {w : World} {o : Obj} {b : Nat} {x : Obj} (h : w.heap[b]? = some x) : (w.alloc o).heap[b]? = some x := by
  rw [Below.heap_alloc w o b (Array.getElem?_eq_some_iff.1 h).1]; exact h
theorem grown_setCell (w : World) (a : Addr) (u : Value) : w.grownBy (w.setCell a u) (some a.block) :=
  ⟨rfl, rfl, rfl, by simp [World.setCell], fun k _ hne => by
    have : a.block ≠ k := fun e => hne (by rw [e])
    simp [World.setCell, Array.getElem?_modify, this]⟩
/-- The net lies in block B from cell o on. -/
structure NetD (w : World) (base B o : Nat) (cut : Bool) (lv v : Value) (L : List Md) : Prop where
  c0 : w.cell? ⟨B, o, none⟩ = some (.bool cut)
  c1 : w.cell? ⟨B, o + 1, none⟩ = some lv
  c2 : w.cell? ⟨B, o + 2, none⟩ = some v
  f2 : w.frozen? ⟨B, o + 2, none⟩ = false
  row : w.ownsRow base 140 3 v L.length (mdCs L)
  lo : base ≤ w.heap.size
  ne : v.ownBlock ≠ some B
theorem NetD.slice {w : World} {base B o : Nat} {cut : Bool} {lv v : Value} {L : List Md} (h : NetD w base B o cut lv v L) : ∃ a cap, v = .slice a L.length cap := by
  rcases h.row.2 with ⟨e, e'⟩ | ⟨g, cap, cur, e, _⟩
  · exact ⟨none, 0, by rw [e, e']⟩
  · exact ⟨_, _, e⟩
theorem NetD.new {w w' : World} {base B o : Nat} {cut : Bool} {lv v : Value} {L : List Md} (h : NetD w base B o cut lv v L) (hg : w.grownBy w' none) : NetD w' base B o cut lv v L := by
  have hb := hg.block B (World.block_lt_of_cell? w _ h.c2) (by simp)
  exact ⟨(World.cell?_of_block (a := ⟨B, o, none⟩) hb).trans h.c0, (World.cell?_of_block (a := ⟨B, o + 1, none⟩) hb).trans h.c1, (World.cell?_of_block (a := ⟨B, o + 2, none⟩) hb).trans h.c2, (World.frozen?_of_block (a := ⟨B, o + 2, none⟩) hb).trans h.f2, h.row.kept hg (Classical.em _), Nat.le_trans h.lo hg.size, h.ne⟩
theorem ownsRow_base {w : World} {base base' : Nat} {e : TypeId} {size n : Nat} {v : Value} {xs : List Value} (h : w.ownsRow base e size v n xs) (hb : base' ≤ base) : w.ownsRow base' e size v n xs := by
  refine ⟨h.1, h.2.imp id fun ⟨g, cap, cur, e, h1, h2⟩ => ⟨g, cap, cur, e, by omega, h2⟩⟩
/-- Two cells of two blocks: whichever is first. -/
theorem setCell_comm (w : World) {p q : Addr} (h : p.block ≠ q.block) (u v : Value) : (w.setCell p u).setCell q v = (w.setCell q v).setCell p u := by
  unfold World.setCell
  congr 1
  apply Array.ext (by simp)
  intro i h1 h2
  simp only [Array.getElem_modify]
  by_cases e1 : p.block = i <;> by_cases e2 : q.block = i
  · exact absurd (e1.trans e2.symm) h
  · simp [e1, e2]
  · simp [e1, e2]
  · simp [e1, e2]
end Go.Proofs.YtncnojgemmcplaaGreatDoor.St.Dc
