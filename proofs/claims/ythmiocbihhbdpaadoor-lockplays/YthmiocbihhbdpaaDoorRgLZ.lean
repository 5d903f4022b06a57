/-
  Regions that draw their order, with loads whose cells a later store of the same region turns: all that waits for such a load is named (B); till one of B has come up a second condition is held. (Nothing of the program in it.)
  A table of rows of bools that is made, and set bit by bit; the document's blank, walked.
  Steps of transactions in memory; the statements' own copy of them, walked.
-/
import Derived.Deep.RegionHeld3
import Derived.Test.YthmiocbihhbdpaaDoorGrMZ
import Derived.Deep.RegionLaw
namespace Go.Proofs.YthmiocbihhbdpaaDoor


section
variable {P : Program} {ops : Array Oper} {Q : Exit → Act → World → Prop} {md : Region.Mode} {B : List Nat} {S T : World → Prop}

/-- None of B has come up. -/
def Fresh (B : List Nat) (listed : Array Bool) : Prop := ∀ b ∈ B, listed.getD b true = false
def freshB (B : List Nat) (listed : Array Bool) : Bool := B.all fun b => !listed.getD b true
theorem fresh_iff {B : List Nat} {listed : Array Bool} : freshB B listed = true ↔ Fresh B listed := by simp [freshB, Fresh]
/-- Each of C waits for number i, or for another one of C. -/
def waitB (md : Region.Mode) (ops : Array Oper) (C : List Nat) (i : Nat) : Bool := C.all fun b => match ops[b]? with
  | some o => o.after.any fun e => Region.binds md e && (e.on == i || C.contains e.on)
  | none => false
def WaitC (md : Region.Mode) (ops : Array Oper) (C : List Nat) (i : Nat) : Prop := ∀ b ∈ C, ∃ o, ops[b]? = some o ∧ ∃ e ∈ o.after, Region.binds md e = true ∧ (e.on = i ∨ e.on ∈ C)
theorem wait_spec {C : List Nat} {i : Nat} (h : waitB md ops C i = true) : WaitC md ops C i := fun b hb => by
  have := List.all_eq_true.1 h b hb
  cases ho : ops[b]? with
  | none => rw [ho] at this; cases this
  | some o =>
    rw [ho] at this
    simp only [Array.any_eq_true'] at this
    obtain ⟨e, he, hp⟩ := this
    rw [Bool.and_eq_true, Bool.or_eq_true, beq_iff_eq, List.contains_iff_mem] at hp
    exact ⟨o, rfl, e, he, hp⟩

/-- In whatever order: S behind each, and T as long as none of B has come up. -/
def wpAnyL (P : Program) (md : Region.Mode) (ops : Array Oper) (Q : Exit → Act → World → Prop) (B : List Nat) (S T : World → Prop) : Nat → Array Bool → Act → World → Prop
  | 0, listed, a, w => Region.ready md ops listed = [] ∧ Q .normal a w
  | n + 1, listed, a, w => (Region.ready md ops listed = [] → Q .normal a w) ∧
    ∀ i ∈ Region.ready md ops listed, wpOp P ops Q i (fun a' w' => (S w' ∧ (Fresh B (listed.setIfInBounds i true) → T w')) ∧ wpAnyL P md ops Q B S T n (listed.setIfInBounds i true) a' w') a w
theorem wpAny_of_L : ∀ (n : Nat) (listed : Array Bool) (a : Act) (w : World), wpAnyL P md ops Q B S T n listed a w → wpAny P md ops Q n listed a w
  | 0, _, _, _, h => h
  | n + 1, _, _, _, h => ⟨h.1, fun i hi => wpOp_mono (fun a' w' h' => wpAny_of_L n _ a' w' h'.2) (h.2 i hi)⟩

theorem unlisted {i : Nat} {listed : Array Bool} (h0 : listed.getD i true = false) : listed.getD i false = false := by
  rcases Nat.lt_or_ge i listed.size with h' | h'
  · simp [h'] at h0 ⊢; exact h0
  · simp [Array.getElem?_eq_none h']
theorem WaitC.not_ready {C : List Nat} {i j : Nat} {listed : Array Bool} (h : WaitC md ops C i) (hi : listed.getD i true = false) (hF : Fresh C listed) (hj : j ∈ Region.ready md ops listed) : j ∉ C := fun hm => by
  obtain ⟨o, ho, x, hx, hb, hon⟩ := h j hm
  obtain ⟨_, o', ho', hall⟩ := mem_ready.1 hj
  rw [ho'] at ho
  obtain rfl := Option.some.inj ho
  have h1 := hall x hx hb
  rcases hon with e | e
  · rw [e, unlisted hi] at h1; cases h1
  · rw [unlisted (hF _ e)] at h1; cases h1

theorem wpAnyL_first {C : List Nat} {i : Nat} {oi : Oper} {v : Value} (hi : ops[i]? = some oi) (hsel : ∀ (j : Nat) (o : Oper) cs b, ops[j]? = some o → o.op ≠ .select cs b)
    (hQ : ∀ c a w, Q (.panic c) (a.put oi.dst v) w → Q (.panic c) a w) (hC : WaitC md ops C i) (hBC : ∀ b ∈ B, b ∈ C) :
    ∀ (n : Nat) (listed : Array Bool) (a : Act) (w : World),
      (∀ j oj, ops[j]? = some oj → j ≠ i → listed.getD j true = false → (∀ e ∈ oj.after, Region.binds md e = true → e.on ≠ i) → oi.apart ops oj = true) →
      i ∈ Region.ready md ops listed → Fresh C listed → YieldsIf P ops (fun w => S w ∧ T w) oi v a → S w ∧ T w →
      wpAnyL P md ops Q B S T n (listed.setIfInBounds i true) (a.put oi.dst v) w → wpAnyL P md ops Q B S T (n + 1) listed a w := by
  intro n
  induction n with
  | zero =>
    intro listed a w _ hr _ hy hS H
    refine ⟨fun h => (by rw [h] at hr; cases hr), fun j hj => ?_⟩
    by_cases e : j = i
    · subst e; exact hy.wpOp hi hS ⟨⟨hS.1, fun _ => hS.2⟩, H⟩
    · have := ready_mono hj e
      rw [H.1] at this
      cases this
  | succ n ih =>
    intro listed a w hfree hr hF hy hS H
    refine ⟨fun h => (by rw [h] at hr; cases hr), fun j hj => ?_⟩
    by_cases e : j = i
    · subst e; exact hy.wpOp hi hS ⟨⟨hS.1, fun _ => hS.2⟩, H⟩
    · obtain ⟨hju, oj, hoj, hall⟩ := mem_ready.1 hj
      have hiu := (mem_ready.1 hr).1
      have hun := unlisted hiu
      have hno : ∀ x ∈ oj.after, Region.binds md x = true → x.on ≠ i := fun x hx hb he => by
        have := hall x hx hb
        rw [he, hun] at this
        cases this
      have hjC : j ∉ C := hC.not_ready hiu hF hj
      have hiC : i ∉ C := hC.not_ready hiu hF hr
      have hF1 : Fresh C (listed.setIfInBounds j true) := fun b hb => by
        have e1 : j ≠ b := fun h => hjC (by rw [h]; exact hb)
        rw [getD_set_ne true e1]; exact hF b hb
      have hF2 : Fresh B ((listed.setIfInBounds i true).setIfInBounds j true) := fun b hb => by
        have e1 : j ≠ b := fun h => hjC (by rw [h]; exact hBC b hb)
        have e2 : i ≠ b := fun h => hiC (by rw [h]; exact hBC b hb)
        rw [getD_set_ne true e1, getD_set_ne true e2]; exact hF b (hBC b hb)
      have h2 := wpOp_putIf hoj (hfree j oj hoj e hju hno) (fun cs b => hsel i oi cs b hi) (fun cs b => hsel j oj cs b hoj) hQ hy (H.2 j (ready_mono hj e))
      refine wpOp_mono (fun a' w' h3 => ?_) h2
      have hST : S w' ∧ T w' := ⟨h3.2.1.1, h3.2.1.2 hF2⟩
      refine ⟨⟨hST.1, fun _ => hST.2⟩, ih _ a' w' (fun k ok hk hki hkl hkn => hfree k ok hk hki ?_ hkn) (ready_mono hr (Ne.symm e)) hF1 h3.1 hST ?_⟩
      · by_cases hjk : j = k
        · subst hjk; exact hju
        · rw [getD_set_ne true hjk] at hkl; exact hkl
      · rw [Array.setIfInBounds_comm _ _ e]
        exact h3.2.2

/-- Number i is taken first: a load, say, whose cell no one turns but those of B, who wait for it (C: by way of whom). -/
theorem wpAnyL_take (C : List Nat) {i : Nat} {oi : Oper} {v : Value} {n : Nat} {listed : Array Bool} {a : Act} {w : World} (hi : ops[i]? = some oi)
    (hs : Region.noSelect ops = true) (hf : Region.free md ops listed i = true) (hr : (Region.ready md ops listed).contains i = true) (hC : (waitB md ops C i && B.all C.contains && freshB C listed) = true)
    (hQ : ∀ c a w, Q (.panic c) (a.put oi.dst v) w → Q (.panic c) a w) (hy : YieldsIf P ops (fun w => S w ∧ T w) oi v a) (hS : S w ∧ T w)
    (h : wpAnyL P md ops Q B S T n (listed.setIfInBounds i true) (a.put oi.dst v) w) : wpAnyL P md ops Q B S T (n + 1) listed a w := by
  rw [Bool.and_eq_true, Bool.and_eq_true] at hC
  exact wpAnyL_first hi (Region.noSelect_spec hs) hQ (wait_spec hC.1.1) (fun b hb => by simpa using List.all_eq_true.1 hC.1.2 b hb) n listed a w (Region.free_spec hi hf) (by simpa using hr) (fresh_iff.1 hC.2) hy hS h

/-- Number i, none of B, is taken first, where S alone is enough for it. -/
theorem wpAnyL_firstS {i : Nat} {oi : Oper} {v : Value} (hi : ops[i]? = some oi) (hsel : ∀ (j : Nat) (o : Oper) cs b, ops[j]? = some o → o.op ≠ .select cs b)
    (hQ : ∀ c a w, Q (.panic c) (a.put oi.dst v) w → Q (.panic c) a w) (hB : i ∉ B) :
    ∀ (n : Nat) (listed : Array Bool) (a : Act) (w : World),
      (∀ j oj, ops[j]? = some oj → j ≠ i → listed.getD j true = false → (∀ e ∈ oj.after, Region.binds md e = true → e.on ≠ i) → oi.apart ops oj = true) →
      i ∈ Region.ready md ops listed → YieldsIf P ops S oi v a → S w → (Fresh B listed → T w) →
      wpAnyL P md ops Q B S T n (listed.setIfInBounds i true) (a.put oi.dst v) w → wpAnyL P md ops Q B S T (n + 1) listed a w := by
  have hback : ∀ listed, Fresh B (listed.setIfInBounds i true) → Fresh B listed := fun listed h b hb => by
    have e2 : i ≠ b := fun h => hB (by rw [h]; exact hb)
    have := h b hb
    rwa [getD_set_ne true e2] at this
  intro n
  induction n with
  | zero =>
    intro listed a w _ hr hy hS hT H
    refine ⟨fun h => (by rw [h] at hr; cases hr), fun j hj => ?_⟩
    by_cases e : j = i
    · subst e; exact hy.wpOp hi hS ⟨⟨hS, fun hf => hT (hback _ hf)⟩, H⟩
    · have := ready_mono hj e
      rw [H.1] at this
      cases this
  | succ n ih =>
    intro listed a w hfree hr hy hS hT H
    refine ⟨fun h => (by rw [h] at hr; cases hr), fun j hj => ?_⟩
    by_cases e : j = i
    · subst e; exact hy.wpOp hi hS ⟨⟨hS, fun hf => hT (hback _ hf)⟩, H⟩
    · obtain ⟨hju, oj, hoj, hall⟩ := mem_ready.1 hj
      have hun := unlisted (mem_ready.1 hr).1
      have hno : ∀ x ∈ oj.after, Region.binds md x = true → x.on ≠ i := fun x hx hb he => by
        have := hall x hx hb
        rw [he, hun] at this
        cases this
      have hF2 : Fresh B (listed.setIfInBounds j true) → Fresh B ((listed.setIfInBounds i true).setIfInBounds j true) := fun h b hb => by
        have e2 : i ≠ b := fun h => hB (by rw [h]; exact hb)
        rw [Array.setIfInBounds_comm _ _ (Ne.symm e), getD_set_ne true e2]; exact h b hb
      have h2 := wpOp_putIf hoj (hfree j oj hoj e hju hno) (fun cs b => hsel i oi cs b hi) (fun cs b => hsel j oj cs b hoj) hQ hy (H.2 j (ready_mono hj e))
      refine wpOp_mono (fun a' w' h3 => ?_) h2
      refine ⟨⟨h3.2.1.1, fun hf => h3.2.1.2 (hF2 hf)⟩, ih _ a' w' (fun k ok hk hki hkl hkn => hfree k ok hk hki ?_ hkn) (ready_mono hr (Ne.symm e)) h3.1 h3.2.1.1 (fun hf => h3.2.1.2 (hF2 hf)) ?_⟩
      · by_cases hjk : j = k
        · subst hjk; exact hju
        · rw [getD_set_ne true hjk] at hkl; exact hkl
      · rw [Array.setIfInBounds_comm _ _ e]
        exact h3.2.2
/-- Such a one, while none of B has come up. -/
theorem wpAnyL_takeS {i : Nat} {oi : Oper} {v : Value} {n : Nat} {listed : Array Bool} {a : Act} {w : World} (hi : ops[i]? = some oi)
    (hs : Region.noSelect ops = true) (hf : Region.free md ops listed i = true) (hr : (Region.ready md ops listed).contains i = true) (hB : B.contains i = false)
    (hQ : ∀ c a w, Q (.panic c) (a.put oi.dst v) w → Q (.panic c) a w) (hy : YieldsIf P ops S oi v a) (hS : S w ∧ T w)
    (h : wpAnyL P md ops Q B S T n (listed.setIfInBounds i true) (a.put oi.dst v) w) : wpAnyL P md ops Q B S T (n + 1) listed a w :=
  wpAnyL_firstS hi (Region.noSelect_spec hs) hQ (by simpa using hB) n listed a w (Region.free_spec hi hf) (by simpa using hr) hy hS.1 (fun _ => hS.2) h
/-- Such a one, when one of B has come up. -/
theorem wpAnyL_takeE {i : Nat} {oi : Oper} {v : Value} {n : Nat} {listed : Array Bool} {a : Act} {w : World} (hi : ops[i]? = some oi)
    (hs : Region.noSelect ops = true) (hf : Region.free md ops listed i = true) (hr : (Region.ready md ops listed).contains i = true) (hB : B.contains i = false) (hF : freshB B listed = false)
    (hQ : ∀ c a w, Q (.panic c) (a.put oi.dst v) w → Q (.panic c) a w) (hy : YieldsIf P ops S oi v a) (hS : S w)
    (h : wpAnyL P md ops Q B S T n (listed.setIfInBounds i true) (a.put oi.dst v) w) : wpAnyL P md ops Q B S T (n + 1) listed a w :=
  wpAnyL_firstS hi (Region.noSelect_spec hs) hQ (by simpa using hB) n listed a w (Region.free_spec hi hf) (by simpa using hr) hy hS (fun hf => by rw [fresh_iff.2 hf] at hF; cases hF) h

def AllReadyL (P : Program) (md : Region.Mode) (ops : Array Oper) (Q : Exit → Act → World → Prop) (B : List Nat) (S T : World → Prop) (n : Nat) (listed : Array Bool) (a : Act) (w : World) (rs : List Nat) : Prop :=
  ∀ i ∈ rs, wpOp P ops Q i (fun a' w' => (S w' ∧ (Fresh B (listed.setIfInBounds i true) → T w')) ∧ wpAnyL P md ops Q B S T n (listed.setIfInBounds i true) a' w') a w
theorem AllReadyL.nil {n : Nat} {listed : Array Bool} {a : Act} {w : World} : AllReadyL P md ops Q B S T n listed a w [] := fun _ h => by cases h
/-- Number i comes up while none of B has: S and T behind it. -/
theorem AllReadyL.cons {n : Nat} {listed : Array Bool} {a : Act} {w : World} {i : Nat} {o : Oper} {rs : List Nat} (ho : ops[i]? = some o)
    (h : ∀ K' : Act → World → Prop, Shut (∀ a w, S w ∧ T w → (S w ∧ T w → wpAnyL P md ops Q B S T n (listed.setIfInBounds i true) a w) → K' a w) → if Region.wanted o (yielded ops a.tmps) = true then Oper.wp P o a w K' Q else K' (a.put o.dst undef) w)
    (hs : AllReadyL P md ops Q B S T n listed a w rs) : AllReadyL P md ops Q B S T n listed a w (i :: rs) := fun j hj => by
  rcases List.mem_cons.1 hj with rfl | hj
  · exact wpOp_step ho fun K' hK => h K' fun a w hST hW => hK a w ⟨⟨hST.1, fun _ => hST.2⟩, hW hST⟩
  · exact hs j hj
/-- One of B comes up, or has: S alone behind it. -/
theorem AllReadyL.last {n : Nat} {listed : Array Bool} {a : Act} {w : World} {i : Nat} {o : Oper} {rs : List Nat} (ho : ops[i]? = some o) (hF : freshB B (listed.setIfInBounds i true) = false)
    (h : ∀ K' : Act → World → Prop, Shut (∀ a w, S w → (S w → wpAnyL P md ops Q B S T n (listed.setIfInBounds i true) a w) → K' a w) → if Region.wanted o (yielded ops a.tmps) = true then Oper.wp P o a w K' Q else K' (a.put o.dst undef) w)
    (hs : AllReadyL P md ops Q B S T n listed a w rs) : AllReadyL P md ops Q B S T n listed a w (i :: rs) := fun j hj => by
  rcases List.mem_cons.1 hj with rfl | hj
  · exact wpOp_step ho fun K' hK => h K' fun a w hS hW => hK a w ⟨⟨hS, fun hf => by rw [fresh_iff.2 hf] at hF; cases hF⟩, hW hS⟩
  · exact hs j hj
theorem wpAnyL_ready {rs : List Nat} {n : Nat} {listed : Array Bool} {a : Act} {w : World} (hr : Region.ready md ops listed = rs) (hne : rs ≠ []) (h : AllReadyL P md ops Q B S T n listed a w rs) : wpAnyL P md ops Q B S T (n + 1) listed a w :=
  ⟨fun h0 => absurd (hr ▸ h0) hne, hr ▸ h⟩
theorem wpAnyL_done {listed : Array Bool} {a : Act} {w : World} (hr : Region.ready md ops listed = []) (h : Q .normal a w) : ∀ n, wpAnyL P md ops Q B S T n listed a w
  | 0 => ⟨hr, h⟩
  | _ + 1 => ⟨fun _ => h, by rw [hr]; simp⟩
theorem wp_region_L {id : Nat} {a : Act} {w : World} (hm : P.follows .mixedOrders = true) (hS : S w.drew ∧ T w.drew)
    (h : S w.drew ∧ T w.drew → wpAnyL P .any ops Q B S T ops.size (Array.replicate ops.size false) a w.drew) : (Code.region id ops true).wp P Q a w :=
  wp_region_any hm (wpAny_of_L _ _ _ _ (h hS))
end
end Go.Proofs.YthmiocbihhbdpaaDoor

namespace Go.Proofs.YthmiocbihhbdpaaDoor
open Go.RowKit

/-- One bit is set. -/
theorem OutAt.put {w : World} {base n : Nat} {v : Value} {gs : List Nat} {A : Nat → Nat → Bool} (h : OutAt w base n v gs A) (hn : gs.Nodup) {i k : Nat} (hi : i < gs.length) (hk : k < n) (x : Bool) :
    OutAt (w.setCell ⟨gs[i], k, none⟩ (.bool x)) base n v gs (fun a b => if a = i ∧ b = k then x else A a b) := by
  obtain ⟨hbi, hlo, hne⟩ := h.bits i hi
  refine ⟨h.row.block fun j hj => Below.heap_setCell w ⟨gs[i], k, none⟩ _ j (fun e => hne (by rw [hj, e])), fun j hj => ?_⟩
  obtain ⟨h1, h2, h3⟩ := h.bits j hj
  by_cases e : j = i
  · subst e
    exact ⟨(h1.put hk x).same fun b _ => by by_cases e' : b = k <;> simp [e'], h2, h3⟩
  · refine ⟨(h1.other (p := ⟨gs[i], k, none⟩) (fun e' => e (nd_idx hn hj hi e')) _).same fun b _ => by simp [e], h2, h3⟩

set_option maxRecDepth 100000 in
set_option maxHeartbeats 1000000 in
theorem blank_any (n : Nat) (hn : n ≤ 60) (w : World) : Calls Tryd.prog 14 #[.int .i64 (n : Int)] w fun e w' => ∃ v gs, e = .returned v ∧ OutAt w' w.heap.size n v gs (fun _ _ => false) ∧ gs.length = n ∧ gs.Nodup ∧ Below w.heap.size w w' := by
  go_enter Tryd.func14, Tryd.ntmps14
  go_wp2
  go_loopw [3, 5] (fun v c wr => ∃ (k : Nat) (gs : List Nat), k ≤ n ∧ c = .int .i64 k ∧ OutAt wr w.heap.size n v gs (fun _ _ => false) ∧ gs.length = k ∧ gs.Nodup ∧ Below w.heap.size w wr) (fun _ c _ => n - (intOf c).toNat)
  case atStart => exact ⟨0, [], Nat.zero_le _, rfl, outAt_nil _ _ _ _, rfl, List.nodup_nil, Below.refl _ _⟩
  case round =>
    obtain ⟨k, gs, hk, rfl, ho, hgl, hnd, hb⟩ := hrel
    have HO := hideIt ho
    have HB := hideIt hb
    have HNd := hideIt hnd
    clear ho hb hnd
    by_cases hkn : k < n
    · have hkn' : (k : Int) < n := by omega
      have hmk := made_bits wr n hn
      have hb1 : Below wr.heap.size wr ((wr.alloc (.cells (madeCells #[.bool false] n) 4)).alloc (.cells #[.slice (some ⟨wr.heap.size, 0, none⟩) n n] 52)) := belA (belA (Below.refl _ _) _) _
      have HO1 := hideIt (HO.out.below hb1 (Nat.le_refl _))
      have HBt : Hid (BitsAt ((wr.alloc (.cells (madeCells #[.bool false] n) 4)).alloc (.cells #[.slice (some ⟨wr.heap.size, 0, none⟩) n n] 52)) wr.heap.size n (fun _ => false)) := (bits_made wr n).block (Below.heap_alloc _ _ _ (by simp))
      have HB1 := hideIt (belJ HB.out hb1)
      have HSz : Hid (w.heap.size ≤ wr.heap.size) := HB.out.size
      have HOwn : Hid (∀ j, u3.ownBlock = some j → j < wr.heap.size) := fun j hj => (HO.out.row.lt j hj).2
      have HGs : Hid (∀ g ∈ gs, g < wr.heap.size) := fun g hg => by
        obtain ⟨i, hi, e⟩ := List.getElem_of_mem hg
        rw [← e]; exact (HO.out.bits i hi).1.lt
      have hnc : ((wr.alloc (.cells (madeCells #[.bool false] n) 4)).alloc (.cells #[.slice (some ⟨wr.heap.size, 0, none⟩) n n] 52)).cell? ⟨wr.heap.size + 1, 0, none⟩ = some (.slice (some ⟨wr.heap.size, 0, none⟩) n n) := by
        have e := heap_alloc_new (wr.alloc (.cells (madeCells #[.bool false] n) 4)) (.cells #[.slice (some ⟨wr.heap.size, 0, none⟩) n n] 52)
        rw [World.size_alloc] at e
        rw [cell_of_row _ _ 0 _ 52 _ e]; rfl
      have HNc := hideIt hnc
      clear hb1 hnc HO HB
      go_wp2_with (at_builtin; refine wpList_append_rowG rfl _ _ rfl w.heap.size _ _ rfl HO1.out.row (wr.heap.size + 1) 1 (.slice (some ⟨wr.heap.size, 0, none⟩) n n) rfl rfl HNc.out ?c2 ?c3 ?_)
      case c2 => simp; omega
      case c3 => have := HSz.out; simp; omega
      intro v' w3 ht
      have HO3 : Hid (OutAt w3 w.heap.size n v' (gs ++ [wr.heap.size]) (fun _ _ => false)) :=
        (HO1.out.more HBt.out HSz.out (fun e => by have := HOwn.out _ e; omega) ht).same fun i k _ _ => by split <;> rfl
      have HB3 : Hid (Below w.heap.size w w3) := HB1.out.grown ht.grown (by have := HSz.out; simp; omega) (fun k hk => (HO1.out.row.lt k hk).1)
      have HN3 : Hid ((gs ++ [wr.heap.size]).Nodup) := by
        show (gs ++ [wr.heap.size]).Nodup
        rw [List.nodup_append]
        exact ⟨HNd.out, by simp, fun a ha b hb' => by rw [List.mem_singleton.1 hb']; have := HGs.out a ha; omega⟩
      have HL3 : Hid ((gs ++ [wr.heap.size]).length = k + 1) := by show (gs ++ [wr.heap.size]).length = k + 1; rw [List.length_append, hgl]; rfl
      clear ht hmk
      go_wp2
      go_roundw
      case rel => exact ⟨k + 1, _, by omega, by go_num, HO3.out, HL3.out, HN3.out, HB3.out⟩
      case measure => simp [intOf]; omega
    · obtain rfl : k = n := by omega
      go_wp2
      go_ret
      exact ⟨_, gs, rfl, HO.out, hgl, HNd.out, HB.out⟩
end Go.Proofs.YthmiocbihhbdpaaDoor

namespace Go.Proofs.YthmiocbihhbdpaaDoor
open Go.RowKit

/-- A step: its transaction, its kind, its key. -/
structure Stp where
  p : Int
  k : Int
  m : Int
def stZ (l : List Stp) (i : Nat) : Stp := l.getD i ⟨0, 0, 0⟩
def Stp.agg (s : Stp) : Value := .agg #[.int .i64 s.p, .int .i64 s.k, .int .i64 s.m]
/-- A step in memory. -/
def StpAt (w : World) (b off : Nat) (s : Stp) : Prop := w.cell? ⟨b, off, none⟩ = some (.int .i64 s.p) ∧ w.cell? ⟨b, off + 1, none⟩ = some (.int .i64 s.k) ∧ w.cell? ⟨b, off + 2, none⟩ = some (.int .i64 s.m)
def StpsAt (w : World) (b off : Nat) (l : List Stp) : Prop := ∀ k (h : k < l.length), StpAt w b (off + k * 3) l[k]
theorem StpAt.below {B : Nat} {w w' : World} {b off : Nat} {s : Stp} (h : StpAt w b off s) (hb : b < B) (hw : Below B w w') : StpAt w' b off s :=
  ⟨(hw.cell (p := ⟨b, off, none⟩) hb).trans h.1, (hw.cell (p := ⟨b, off + 1, none⟩) hb).trans h.2.1, (hw.cell (p := ⟨b, off + 2, none⟩) hb).trans h.2.2⟩
theorem StpsAt.below {B : Nat} {w w' : World} {b off : Nat} {l : List Stp} (h : StpsAt w b off l) (hb : b < B) (hw : Below B w w') : StpsAt w' b off l := fun k hk => (h k hk).below hb hw
/-- Steps that came in: none, or in memory. -/
def StpsQ (w : World) (a : Option Addr) (l : List Stp) : Prop := l = [] ∨ ∃ b off, a = some ⟨b, off, none⟩ ∧ b < w.heap.size ∧ StpsAt w b off l
theorem StpsQ.below {w w' : World} {a : Option Addr} {l : List Stp} (h : StpsQ w a l) (hw : Below w.heap.size w w') : StpsQ w' a l := by
  rcases h with h | ⟨b, off, rfl, hb, h⟩
  · exact .inl h
  · exact .inr ⟨b, off, rfl, Nat.lt_of_lt_of_le hb hw.size, h.below hb hw⟩
theorem stZ_at {l : List Stp} {k : Nat} (h : k < l.length) : stZ l k = l[k] := by
  unfold stZ
  simp [List.getD, h]

def stpC (l : List Stp) : List Value := l.flatMap fun s => [.int .i64 s.p, .int .i64 s.k, .int .i64 s.m]
theorem stpC_app (l : List Stp) (s : Stp) : stpC (l ++ [s]) = stpC l ++ [.int .i64 s.p, .int .i64 s.k, .int .i64 s.m] := by simp [stpC]
theorem stpC_len : ∀ l : List Stp, (stpC l).length = l.length * 3
  | [] => rfl
  | s :: l => by
    have := stpC_len l
    unfold stpC at this ⊢
    rw [List.flatMap_cons, List.length_append, this]
    simp; omega
theorem stpC_at : ∀ (l : List Stp) (k j : Nat) (hk : k < l.length), j < 3 → (stpC l)[k * 3 + j]? = [Value.int .i64 l[k].p, .int .i64 l[k].k, .int .i64 l[k].m][j]?
  | [], k, _, hk, _ => absurd hk (by simp)
  | s :: l, 0, j, _, hj => by
    show ([Value.int .i64 s.p, .int .i64 s.k, .int .i64 s.m] ++ stpC l)[0 * 3 + j]? = _
    rw [List.getElem?_append_left (by simp; omega)]
    simp
  | s :: l, k + 1, j, hk, hj => by
    show ([Value.int .i64 s.p, .int .i64 s.k, .int .i64 s.m] ++ stpC l)[(k + 1) * 3 + j]? = _
    rw [List.getElem?_append_right (by simp; omega)]
    have := stpC_at l k j (by simpa using hk) hj
    rw [show (k + 1) * 3 + j - [Value.int .i64 s.p, .int .i64 s.k, .int .i64 s.m].length = k * 3 + j by simp; omega, this]
    simp
theorem info67 : (Tryd.prog.info? 47).map (fun i => (i.zero, i.size, i.bytes)) = some (some (.agg #[.int .i64 0, .int .i64 0, .int .i64 0]), 3, 24) := by kernel_rfl
theorem run_appS {w : World} {base B : Nat} {v : Value} {n : Nat} {L : List Stp} {s : Stp} (hown : w.ownsRow base 47 3 v n (stpC L)) (hB : StpAt w B 0 s) (hb : base ≤ w.heap.size) (hlen : n ≤ 1000) (ty : TypeId) :
    ∃ v' w', (Builtin.append_ #[27, 27] ty #[v, .slice (some ⟨B, 0, none⟩) 1 1]).run Tryd.prog w = .ok v' w' ∧ w'.ownsRow base 47 3 v' (n + 1) (stpC (L ++ [s])) ∧ w.grownBy w' v.ownBlock ∧ (v'.ownBlock = v.ownBlock ∨ v'.ownBlock = some w.heap.size) := by
  obtain ⟨i, hi, hz, hsz, hby⟩ := info_parts' info67
  have hnews : ∀ j u, [Value.int .i64 s.p, .int .i64 s.k, .int .i64 s.m][j]? = some u → w.cell? ((⟨B, 0, none⟩ : Addr).add j) = some u := by
    intro j u hj
    rw [Addr.add_mid, Nat.zero_add]
    match j, hj with
    | 0, hj => simp at hj; subst hj; exact hB.1
    | 1, hj => simp at hj; subst hj; exact hB.2.1
    | 2, hj => simp at hj; subst hj; exact hB.2.2
  obtain ⟨v', w', hr, ho, hg, _, hob⟩ := run_append_own_at (P := Tryd.prog) (w := w) base 27 ty 47 i _ 3 24 Tryd.underlying27 hi hz hsz hby rfl (by decide) v _ _ hown ⟨B, 0, none⟩ 1 1 [.int .i64 s.p, .int .i64 s.k, .int .i64 s.m] rfl hnews (by simp [Value.oneCell']) (by unfold maxLen; omega) (by omega) hb
  exact ⟨v', w', hr, by rw [stpC_app]; exact ho, hg, hob⟩
theorem stpsQ_own {w : World} {base : Nat} {v : Value} {l : List Stp} (h : w.ownsRow base 47 3 v l.length (stpC l)) : ∃ a cap, v = .slice a l.length cap ∧ l.length ≤ cap ∧ StpsQ w a l := by
  obtain ⟨hl, ⟨rfl, h0⟩ | ⟨g, cap, cur, rfl, hb, hh, h1, h2, h3, h4⟩⟩ := h
  · have : l = [] := List.eq_nil_of_length_eq_zero h0
    subst this
    exact ⟨none, 0, rfl, Nat.le_refl _, .inl rfl⟩
  · refine ⟨_, cap, rfl, h1, .inr ⟨g, 0, rfl, lt_of_heap hh, fun k hk => ?_⟩⟩
    have hc : ∀ j, j < 3 → w.cell? ⟨g, 0 + k * 3 + j, none⟩ = [Value.int .i64 l[k].p, .int .i64 l[k].k, .int .i64 l[k].m][j]? := fun j hj => by
      rw [cell_of_row _ _ _ _ 47 _ hh, Nat.zero_add, ← stpC_at l k j hk hj]
      have e : (cur.toList.take (l.length * 3))[k * 3 + j]? = (stpC l)[k * 3 + j]? := by rw [h4]
      rw [List.getElem?_take_of_lt (by omega), Array.getElem?_toList] at e
      exact e
    exact ⟨hc 0 (by omega), hc 1 (by omega), hc 2 (by omega)⟩

set_option maxRecDepth 100000 in
set_option maxHeartbeats 4000000 in
theorem mixed_any (l : List Stp) (a : Option Addr) (cap : Nat) (w : World) (hlen : l.length ≤ 100) (hl : StpsQ w a l) :
    Calls Tryd.prog 4 #[.slice a l.length cap] w fun e w' => ∃ a' cap', e = .returned (.slice a' l.length cap') ∧ l.length ≤ cap' ∧ StpsQ w' a' l ∧ Below w.heap.size w w' := by
  have HL := hideIt hl
  clear hl
  go_enter Tryd.func4, Tryd.ntmps4
  go_wp2
  go_loopw [3, 4] (fun v i wr => ∃ k : Nat, k ≤ l.length ∧ i = .int .i64 k ∧ wr.ownsRow w.heap.size 47 3 v k (stpC (l.take k)) ∧ Below w.heap.size w wr) (fun _ i _ => l.length - (intOf i).toNat)
  case atStart => exact ⟨0, Nat.zero_le _, rfl, World.ownsRow_nil _ _ _ _, Below.refl _ _⟩
  case round =>
    obtain ⟨k, hk, rfl, ho, hb⟩ := hrel
    have HO := hideIt ho
    have HB := hideIt hb
    obtain ⟨va, vc, hv⟩ := ownsRow_slice ho
    subst hv
    clear ho hb
    by_cases hkl : k < l.length
    · obtain ⟨b, off, rfl, hlt, hst⟩ : ∃ b off, a = some ⟨b, off, none⟩ ∧ b < w.heap.size ∧ StpsAt w b off l := by
        rcases HL.out with h | h
        · subst h; simp at hkl
        · exact h
      obtain ⟨c0, c1, c2⟩ := (hst k hkl).below hlt HB.out
      have HX : Hid (l.take (k + 1) = l.take k ++ [l[k]]) := List.take_succ_eq_append_getElem hkl
      generalize l[k] = x at c0 c1 c2 HX
      clear hst HL
      have hbl : b < wr.heap.size := Nat.lt_of_lt_of_le hlt HB.out.size
      have hOA : (wr.alloc (.cells #[.int .i64 x.p, .int .i64 x.k, .int .i64 x.m] 47)).drew.ownsRow w.heap.size 47 3 (.slice va k vc) k (stpC (l.take k)) := ownsRow_same HO.out fun b' hb' => Below.heap_alloc _ _ _ (ownsRow_block HO.out b' hb').2.1
      have hs3 : (wr.alloc (.cells #[.int .i64 x.p, .int .i64 x.k, .int .i64 x.m] 47)).drew.heap.size = wr.heap.size + 1 := by
        show (wr.alloc (.cells #[.int .i64 x.p, .int .i64 x.k, .int .i64 x.m] 47)).heap.size = _
        simp
      have hSA : StpAt (wr.alloc (.cells #[.int .i64 x.p, .int .i64 x.k, .int .i64 x.m] 47)).drew wr.heap.size 0 x := by
        have e : (wr.alloc (.cells #[.int .i64 x.p, .int .i64 x.k, .int .i64 x.m] 47)).drew.heap[wr.heap.size]? = some (.cells #[.int .i64 x.p, .int .i64 x.k, .int .i64 x.m] 47 (0, 0)) := heap_alloc_new wr _
        exact ⟨cell_of_row _ _ _ _ 47 (0, 0) e, cell_of_row _ _ _ _ 47 (0, 0) e, cell_of_row _ _ _ _ 47 (0, 0) e⟩
      obtain ⟨n1, w6, hr6, ho6, hg6, hob6⟩ := run_appS hOA hSA (by rw [hs3]; have := HB.out.size; omega) (by omega) 27
      have hB6 : Below w.heap.size w w6 := (belA HB.out _).drew.grown hg6 (by rw [hs3]; have := HB.out.size; omega) (fun b' hb' => (ownsRow_block hOA b' hb').1)
      rw [← HX.out] at ho6
      obtain ⟨na, nc, hn1⟩ := ownsRow_slice ho6
      have HO6 := hideIt ho6
      have HB6 := hideIt hB6
      have HR6 := hideIt hr6
      clear hOA hs3 hSA ho6 hg6 hob6 hB6 hr6
      subst hn1
      have hx1 : ¬ b = wr.heap.size := by omega
      have hx2 : ¬ wr.heap.size = b := by omega
      go_wp2_with fail
      go_region_law (refine step_append_run (by rfl) _ _ 27 (by rfl) _ _ _ w6 (by rfl) (by rfl) HR6.out ?_)
      all_goals
        go_wp2
        go_roundw
        case rel => exact ⟨k + 1, by omega, by go_num, HO6.out, HB6.out⟩
        case measure => simp [intOf]; omega
    · obtain rfl : k = l.length := by omega
      rw [List.take_length] at HO
      go_wp2
      go_ret
      obtain ⟨a', cap', hv, hc, hq⟩ := stpsQ_own HO.out
      exact ⟨a', cap', congrArg Ending.returned hv, hc, hq, HB.out⟩
end Go.Proofs.YthmiocbihhbdpaaDoor
