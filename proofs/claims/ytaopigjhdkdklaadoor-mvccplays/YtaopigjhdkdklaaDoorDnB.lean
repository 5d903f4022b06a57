/-
  The document's NewBase, walked.
-/
import Derived.Test.YtaopigjhdkdklaaDoorDcW
import Derived.Test.YtaopigjhdkdklaaDoorPwAZ
namespace Go.Proofs.YtaopigjhdkdklaaDoor
open Go.RowKit

theorem made_txs (w : World) (n : Nat) (hn : n ≤ 60) : (Instr.makeSlice 77 (.int .i64 (n : Int)) (.int .i64 (n : Int))).run Tryd.prog w = .ok (.slice (some ⟨w.heap.size, 0, none⟩) n n) (w.alloc (.cells (madeCells #[.slice none 0 0, .bool false] (n * 2)) 90)) := by
  obtain ⟨i, hi, hz, hs, hb⟩ := info_parts' info62
  have := run_make (P := Tryd.prog) w 77 90 i _ Tryd.underlying77 hi hz .i64 .i64 (n : Int) (n : Int) (by omega) (Int.le_refl _) (by rw [hb]; omega) (by omega)
  have e : (Value.agg #[.slice none 0 0, .bool false]).cells = #[.slice none 0 0, .bool false] := rfl
  rw [e] at this
  simpa [hs] using this
theorem run_app1 {w : World} {base B n : Nat} {v u : Value} {xs : List Value} (hown : w.ownsRow base 3 1 v n xs) (hB : w.cell? ⟨B, 0, none⟩ = some u) (hu : u.oneCell' = true) (hb : base ≤ w.heap.size) (hn : n ≤ 1000) (ty : TypeId) :
    ∃ v' w', (Builtin.append_ #[52, 52] ty #[v, .slice (some ⟨B, 0, none⟩) 1 1]).run Tryd.prog w = .ok v' w' ∧ w'.ownsRow base 3 1 v' (n + 1) (xs ++ [u]) ∧ w.grownBy w' v.ownBlock ∧ (v'.ownBlock = v.ownBlock ∨ v'.ownBlock = some w.heap.size) := by
  obtain ⟨i, hi, hz, hsz, hby⟩ := info_parts' info3
  obtain ⟨v', w', hr, ho, hg, _, hob⟩ := run_append_own_at (P := Tryd.prog) (w := w) base 52 ty 3 i _ 1 8 Tryd.underlying52 hi hz hsz hby rfl (by decide) v _ _ hown ⟨B, 0, none⟩ 1 1 [u] rfl (fun j x hj => by
    rw [Addr.add_mid, Nat.zero_add]
    match j, hj with
    | 0, hj => simp at hj; subst hj; exact hB
    | k + 1, hj => simp at hj) (by simpa using hu) (by unfold maxLen; omega) (by omega) hb
  exact ⟨v', w', hr, ho, hg, hob⟩
theorem timC_succ (m : Nat) (f : Nat → Int) : timC (m + 1) f = timC m f ++ [.int .i64 (f m)] := by simp [timC, List.range_succ]
def nbO (T R O n : Nat) (vb ve : Value) (c : Bool) : Obj := .cells #[.bool c, .slice (some ⟨T, 0, none⟩) n n, .slice (some ⟨R, 0, none⟩) 8 8, vb, ve, .slice (some ⟨O, 0, none⟩) n n, .int .i64 0] 81 (0, 0)
/-- The document's base as it is made: m times so far. -/
structure NbS (W Z : World) (B T R O : Nat) (vb ve : Value) (c : Bool) (n m : Nat) : Prop where
  bel : Below W.heap.size W Z
  blk : Z.heap[B]? = some (nbO T R O n vb ve c)
  tx : Z.heap[T]? = some (.cells (madeCells #[.slice none 0 0, .bool false] (n * 2)) 90 (0, 0))
  rr : Z.heap[R]? = some (.cells #[.slice none 0 0, .slice none 0 0, .slice none 0 0, .slice none 0 0, .slice none 0 0, .slice none 0 0, .slice none 0 0, .slice none 0 0] 52 (0, 0))
  oo : Z.heap[O]? = some (.cells (madeCells #[.bool false] n) 4 (0, 0))
  vbo : Z.ownsRow W.heap.size 3 1 vb m (timC m fun _ => -1)
  veo : Z.ownsRow W.heap.size 3 1 ve m (timC m fun _ => -1)
  dis : ∀ b, vb.ownBlock = some b → ve.ownBlock ≠ some b
  lo : W.heap.size ≤ B ∧ W.heap.size ≤ T ∧ W.heap.size ≤ R ∧ W.heap.size ≤ O
section
variable {W V Y : World} {B T R O n m : Nat} {vb ve : Value} {c : Bool}
theorem NbS.below (h : NbS W V B T R O vb ve c n m) (hb : Below V.heap.size V Y) : NbS W Y B T R O vb ve c n m :=
  ⟨belJ h.bel hb, (hb.block _ (lt_of_heap h.blk)).trans h.blk, (hb.block _ (lt_of_heap h.tx)).trans h.tx, (hb.block _ (lt_of_heap h.rr)).trans h.rr, (hb.block _ (lt_of_heap h.oo)).trans h.oo, ownsRow_same h.vbo fun b hb' => hb.block b (ownsRow_block h.vbo b hb').2.1, ownsRow_same h.veo fun b hb' => hb.block b (ownsRow_block h.veo b hb').2.1, h.dis, h.lo⟩
/-- What is so when the first of the two rows has grown. -/
structure NbX (W V Y : World) (vb vb' : Value) (m : Nat) : Prop where
  bel : Below W.heap.size W Y
  size : V.heap.size ≤ Y.heap.size
  kept : ∀ b, b < V.heap.size → vb.ownBlock ≠ some b → Y.heap[b]? = V.heap[b]?
  row : Y.ownsRow W.heap.size 3 1 vb' (m + 1) (timC (m + 1) fun _ => -1)
  new : ∀ b, vb'.ownBlock = some b → vb.ownBlock = some b ∨ V.heap.size ≤ b
theorem NbX.below {vb' : Value} {Y' : World} (h : NbX W V Y vb vb' m) (hb : Below Y.heap.size Y Y') : NbX W V Y' vb vb' m :=
  ⟨belJ h.bel hb, Nat.le_trans h.size hb.size, fun b hb1 hb2 => (hb.block b (Nat.lt_of_lt_of_le hb1 h.size)).trans (h.kept b hb1 hb2), ownsRow_same h.row fun b hb' => hb.block b (ownsRow_block h.row b hb').2.1, h.new⟩
theorem NbS.first (h : NbS W V B T R O vb ve c n m) (hm : m ≤ 100) (hY : Below V.heap.size V Y) {b1 : Nat} (hb1 : Y.cell? ⟨b1, 0, none⟩ = some (.int .i64 (-1))) : ∃ va vc Y', (Builtin.append_ #[52, 52] 52 #[vb, .slice (some ⟨b1, 0, none⟩) 1 1]).run Tryd.prog Y = .ok (.slice va (m + 1) vc) Y' ∧ NbX W V Y' vb (.slice va (m + 1) vc) m ∧ ∀ b2 : Nat, V.heap.size ≤ b2 → b2 < Y.heap.size → Y'.heap[b2]? = Y.heap[b2]? := by
  have hY' := h.below hY
  obtain ⟨v', Y', hr, ho, hg, hv⟩ := run_app1 hY'.vbo hb1 rfl hY'.bel.size (by omega) 52
  obtain ⟨va, vc, rfl⟩ := ownsRow_slice ho
  have hlt : ∀ b, vb.ownBlock = some b → b < V.heap.size := fun b hb => (ownsRow_block h.vbo b hb).2.1
  refine ⟨va, vc, Y', hr, ⟨hY'.bel.grown hg hY'.bel.size fun b hb => (ownsRow_block hY'.vbo b hb).1, Nat.le_trans hY.size hg.size, fun b hb hne => (hg.block b (Nat.lt_of_lt_of_le hb hY.size) (fun e => hne e.symm)).trans (hY.block b hb), by rw [timC_succ]; exact ho, fun b hb => ?_⟩, fun b2 h1 h2 => hg.block b2 h2 fun e => by have := hlt b2 e.symm; omega⟩
  rcases hv with e | e
  · rw [e] at hb; exact .inl hb
  · rw [e] at hb
    obtain rfl : Y.heap.size = b := by simpa using hb
    exact .inr hY.size
theorem nb_tags (h : NbS W V B T R O vb ve c n m) : tagD V.heap[B]? = 82 ∧ tagD V.heap[T]? = 91 ∧ tagD V.heap[R]? = 53 ∧ tagD V.heap[O]? = 5 := by
  have hb := h.blk
  unfold nbO at hb
  exact ⟨by rw [hb]; rfl, by rw [h.tx]; rfl, by rw [h.rr]; rfl, by rw [h.oo]; rfl⟩
theorem NbS.second (h : NbS W V B T R O vb ve c n m) (hm : m ≤ 100) {vb' : Value} (hX : NbX W V Y vb vb' m) {b2 : Nat} (hb2 : Y.cell? ⟨b2, 0, none⟩ = some (.int .i64 (-1))) : ∃ va vc Y', (Builtin.append_ #[52, 52] 52 #[ve, .slice (some ⟨b2, 0, none⟩) 1 1]).run Tryd.prog Y = .ok (.slice va (m + 1) vc) Y' ∧ Y'.cell? ⟨B, 3, none⟩ = some vb ∧ Y'.cell? ⟨B, 4, none⟩ = some ve ∧ (∀ i, Y'.frozen? ⟨B, i, none⟩ = false) ∧ NbS W ((Y'.setCell ⟨B, 3, none⟩ vb').setCell ⟨B, 4, none⟩ (.slice va (m + 1) vc)) B T R O vb' (.slice va (m + 1) vc) c n (m + 1) := by
  obtain ⟨t1, t2, t3, t4⟩ := nb_tags h
  have tb : ∀ b, vb.ownBlock = some b → tagD V.heap[b]? = 4 := fun b hb => own_tagD h.vbo hb
  have te : ∀ b, ve.ownBlock = some b → tagD V.heap[b]? = 4 := fun b hb => own_tagD h.veo hb
  have hve : Y.ownsRow W.heap.size 3 1 ve m (timC m fun _ => -1) := ownsRow_same h.veo fun b hb => hX.kept b (ownsRow_block h.veo b hb).2.1 fun e => h.dis b e hb
  obtain ⟨v', Y', hr, ho, hg, hv⟩ := run_app1 hve hb2 rfl hX.bel.size (by omega) 52
  obtain ⟨va, vc, rfl⟩ := ownsRow_slice ho
  have keep : ∀ {b x : Nat}, tagD V.heap[b]? = x → x ≠ 4 → b < V.heap.size → Y'.heap[b]? = V.heap[b]? := fun hx hne hb => (hg.block _ (Nat.lt_of_lt_of_le hb hX.size) fun e => ne_tagD hx (te _ e.symm) hne rfl).trans (hX.kept _ hb fun e => ne_tagD hx (tb _ e) hne rfl)
  have eB := keep t1 (by decide) (lt_of_heap h.blk)
  have eT := keep t2 (by decide) (lt_of_heap h.tx)
  have eR := keep t3 (by decide) (lt_of_heap h.rr)
  have eO := keep t4 (by decide) (lt_of_heap h.oo)
  have hblk := eB.trans h.blk
  unfold nbO at hblk
  have hlt := lt_of_heap h.blk
  have hset : ∀ b, b ≠ B → ((Y'.setCell ⟨B, 3, none⟩ vb').setCell ⟨B, 4, none⟩ (.slice va (m + 1) vc)).heap[b]? = Y'.heap[b]? := fun b hb => (Below.heap_setCell _ ⟨B, 4, none⟩ _ b hb).trans (Below.heap_setCell _ ⟨B, 3, none⟩ _ b hb)
  have hveB : ∀ b, ve.ownBlock = some b → b < V.heap.size := fun b hb => (ownsRow_block h.veo b hb).2.1
  have hvbB : ∀ b, vb.ownBlock = some b → b < V.heap.size := fun b hb => (ownsRow_block h.vbo b hb).2.1
  have newv : ∀ b, Value.ownBlock (.slice va (m + 1) vc) = some b → ve.ownBlock = some b ∨ b = Y.heap.size := fun b hb => by
    rcases hv with e | e
    · rw [e] at hb; exact .inl hb
    · rw [e] at hb; exact .inr (by simpa using hb.symm)
  have rowb : Y'.ownsRow W.heap.size 3 1 vb' (m + 1) (timC (m + 1) fun _ => -1) := ownsRow_same hX.row fun b hb => hg.block b (ownsRow_block hX.row b hb).2.1 fun e => by
    have e := e.symm
    rcases hX.new b hb with e' | e'
    · exact h.dis b e' e
    · have := hveB b e; omega
  have neB : ∀ b, vb'.ownBlock = some b → b ≠ B := fun b hb e => by
    rcases hX.new b hb with e' | e'
    · exact ne_tagD (tb b e') t1 (by decide) e
    · omega
  have neE : ∀ b, Value.ownBlock (.slice va (m + 1) vc) = some b → b ≠ B := fun b hb e => by
    rcases newv b hb with e' | e'
    · exact ne_tagD (te b e') t1 (by decide) e
    · have := hX.size; omega
  refine ⟨va, vc, Y', hr, by rw [cell_of_row _ _ _ _ 81 _ hblk]; rfl, by rw [cell_of_row _ _ _ _ 81 _ hblk]; rfl, fun i => frozen_of_row _ _ _ _ 81 hblk, ⟨((hX.bel.grown hg hX.bel.size fun b hb => (ownsRow_block hve b hb).1).setCell (p := ⟨B, 3, none⟩) h.lo.1 _).setCell (p := ⟨B, 4, none⟩) h.lo.1 _, heap_setCell_same _ B 4 _ 81 _ (heap_setCell_same _ B 3 _ 81 _ hblk), (hset T (ne_tagD t2 t1 (by decide))).trans (eT.trans h.tx), (hset R (ne_tagD t3 t1 (by decide))).trans (eR.trans h.rr), (hset O (ne_tagD t4 t1 (by decide))).trans (eO.trans h.oo), ownsRow_same rowb fun b hb => hset b (neB b hb), by rw [timC_succ]; exact ownsRow_same ho fun b hb => hset b (neE b hb), fun b hb hc => ?_, h.lo⟩⟩
  rcases newv b hc with e | e
  · rcases hX.new b hb with e' | e'
    · exact h.dis b e' e
    · have := hveB b e; omega
  · have := (ownsRow_block hX.row b hb).2.1
    omega
/-- The base that is made. -/
theorem NbS.doc (h : NbS W V B T R O vb ve c n n) : DocB W V ⟨B, T, R, O, vb, ve, fun _ => .slice none 0 0, fun _ => .slice none 0 0⟩ c n mv0 := by
  obtain ⟨t1, t2, t3, t4⟩ := nb_tags h
  refine ⟨h.bel, h.blk, ⟨_, h.tx⟩, fun t ht => ⟨?_, ?_, World.ownsRow_nil _ _ _ _⟩, ⟨_, h.rr⟩, fun q hq => ⟨?_, World.ownsRow_nil _ _ _ _⟩, h.vbo, h.veo, ⟨⟨_, h.oo⟩, fun t ht => ?_⟩, h.lo, fun t u _ _ _ b hb => (by cases hb), fun p q _ _ _ b hb => (by cases hb), fun q _ b hb => (by cases hb), h.dis⟩
  · rw [cell_of_row _ _ _ _ 90 _ h.tx, made_at _ _ _ (by omega)]
    have : t * 2 % (#[Value.slice none 0 0, Value.bool false] : Array Value).size = 0 := by simp
    rw [this]
    rfl
  · rw [cell_of_row _ _ _ _ 90 _ h.tx, made_at _ _ _ (by omega)]
    have : (t * 2 + 1) % (#[Value.slice none 0 0, Value.bool false] : Array Value).size = 1 := by
      show (t * 2 + 1) % 2 = 1
      omega
    rw [this]
    rfl
  · rw [cell_of_row _ _ _ _ 52 _ h.rr]
    rcases q with _ | _ | _ | _ | _ | _ | _ | _ | q
    all_goals first | rfl | omega
  · rw [cell_of_row _ _ _ _ 4 _ h.oo, made_one _ _ _ ht]
    rfl
end
theorem chain4 (V : World) (o1 o2 o3 o4 : Obj) : (((V.alloc o1).alloc o2).alloc o3 |>.alloc o4).heap[V.heap.size]? = some o1 ∧ (((V.alloc o1).alloc o2).alloc o3 |>.alloc o4).heap[V.heap.size + 1]? = some o2 ∧ (((V.alloc o1).alloc o2).alloc o3 |>.alloc o4).heap[V.heap.size + 1 + 1]? = some o3 ∧ (((V.alloc o1).alloc o2).alloc o3 |>.alloc o4).heap[V.heap.size + 1 + 1 + 1]? = some o4 := by
  have e1 := heap_alloc_new V o1
  have e2 := heap_alloc_new (V.alloc o1) o2
  have e3 := heap_alloc_new ((V.alloc o1).alloc o2) o3
  have e4 := heap_alloc_new (((V.alloc o1).alloc o2).alloc o3) o4
  rw [World.size_alloc] at e2
  rw [World.size_alloc, World.size_alloc] at e3
  rw [World.size_alloc, World.size_alloc, World.size_alloc] at e4
  exact ⟨(Below.heap_alloc _ _ _ (by simp <;> omega)).trans ((Below.heap_alloc _ _ _ (by simp <;> omega)).trans ((Below.heap_alloc _ _ _ (by simp)).trans e1)), (Below.heap_alloc _ _ _ (by simp <;> omega)).trans ((Below.heap_alloc _ _ _ (by simp)).trans e2), (Below.heap_alloc _ _ _ (by simp)).trans e3, e4⟩

set_option maxRecDepth 100000 in
set_option maxHeartbeats 4000000 in
theorem dnew_any (n : Nat) (c : Bool) (W : World) (hn : n ≤ 8) : Calls Tryd.prog 10 #[.int .i64 (n : Int), .bool c] W fun e W' => ∃ k : DbK, e = .returned (.pointer (some ⟨k.B, 0, none⟩)) ∧ DocB W W' k c n mv0 := by
  have hm1 : ∀ w : World, (Instr.makeSlice 77 (.int .i64 (n : Int)) (.int .i64 (n : Int))).run Tryd.prog w = .ok (.slice (some ⟨w.heap.size, 0, none⟩) n n) (w.alloc (.cells (madeCells #[.slice none 0 0, .bool false] (n * 2)) 90)) := fun w => made_txs w n (by omega)
  have hm2 : ∀ w : World, (Instr.makeSlice 42 (.int .i64 8) (.int .i64 8)).run Tryd.prog w = .ok (.slice (some ⟨w.heap.size, 0, none⟩) 8 8) (w.alloc (.cells #[.slice none 0 0, .slice none 0 0, .slice none 0 0, .slice none 0 0, .slice none 0 0, .slice none 0 0, .slice none 0 0, .slice none 0 0] 52)) := fun w => by
    have := made_lists w 8 (by omega)
    rw [show madeCells #[Value.slice none 0 0] 8 = #[.slice none 0 0, .slice none 0 0, .slice none 0 0, .slice none 0 0, .slice none 0 0, .slice none 0 0, .slice none 0 0, .slice none 0 0] by kernel_rfl] at this
    exact this
  have hm3 : ∀ w : World, (Instr.makeSlice 46 (.int .i64 (n : Int)) (.int .i64 (n : Int))).run Tryd.prog w = .ok (.slice (some ⟨w.heap.size, 0, none⟩) n n) (w.alloc (.cells (madeCells #[.bool false] n) 4)) := fun w => made_bits w n (by omega)
  have HRow : Hid (∀ Z : World, Z.ownsRow W.heap.size 3 1 (.slice none 0 0) 0 (timC 0 fun _ => -1)) := fun Z => World.ownsRow_nil _ _ _ _
  go_enter Tryd.func10, Tryd.ntmps10
  go_upto_region 1 with fail
  go_cut [5] from 6 to 14 (fun x wz => ∃ B T R O, x = .pointer (some ⟨B, 0, none⟩) ∧ NbS W wz B T R O (.slice none 0 0) (.slice none 0 0) c n 0)
  case first =>
    refine wp_region_held_drew (S := (fun w' => Below W.heap.size W w')) (by kernel_rfl) (Below.refl _ _).drew (fun hHeld => ?_)
    refine wpAnyH_take (i := 0) (v := ?_) rfl (by kernel_rfl) (by kernel_rfl) (by kernel_rfl) (fun _ _ _ h => h) (Or.inl ⟨by rfl, ?_⟩) (by assumption) ?_
    rotate_left 1
    · intro wz _
      go_simp
      all_goals with_reducible rfl
    simp only [Act.put, List.setIfInBounds_toArray, List.set_cons_zero, List.set_cons_succ, List.getElem_toArray, List.getElem_cons_zero]
    refine wpAnyH_take (i := 1) (v := ?_) rfl (by kernel_rfl) (by kernel_rfl) (by kernel_rfl) (fun _ _ _ h => h) (Or.inl ⟨by rfl, ?_⟩) (by assumption) ?_
    rotate_left 1
    · intro wz _
      go_simp
      all_goals with_reducible rfl
    simp only [Act.put, List.setIfInBounds_toArray, List.set_cons_zero, List.set_cons_succ, List.getElem_toArray, List.getElem_cons_zero, List.getElem_cons_succ]
    refine wpAnyH_take (i := 5) (v := ?_) rfl (by kernel_rfl) (by kernel_rfl) (by kernel_rfl) (fun _ _ _ h => h) (Or.inl ⟨by rfl, ?_⟩) (by assumption) ?_
    rotate_left 1
    · intro wz _
      go_simp
      all_goals with_reducible rfl
    simp only [Act.put, List.setIfInBounds_toArray, List.set_cons_zero, List.set_cons_succ, List.getElem_toArray, List.getElem_cons_zero, List.getElem_cons_succ]
    generalize W.drew = V0 at hHeld ⊢
    have hV0 := hHeld
    refine wpAnyH_ready (rs := [2, 3, 6]) (by kernel_rfl) (by simp) (AllReadyH.cons rfl (fun K hK => ?_) (AllReadyH.cons rfl (fun K hK => ?_) (AllReadyH.cons rfl (fun K hK => ?_) AllReadyH.nil)))
    · go_simp
      refine hK.out _ _ ?_ (fun hHeld => ?_)
      · exact hHeld.alloc hHeld.size _
      clear hK K
      refine wpAnyH_ready (rs := [3, 6]) (by kernel_rfl) (by simp) (AllReadyH.cons rfl (fun K hK => ?_) (AllReadyH.cons rfl (fun K hK => ?_) AllReadyH.nil))
      · go_simp
        refine hK.out _ _ ?_ (fun hHeld => ?_)
        · exact hHeld.alloc hHeld.size _
        clear hK K
        refine wpAnyH_take (i := 4) (v := ?_) rfl (by kernel_rfl) (by kernel_rfl) (by kernel_rfl) (fun _ _ _ h => h) (Or.inl ⟨by rfl, ?_⟩) (by assumption) ?_
        rotate_left 1
        · intro wz _
          go_simp
          all_goals with_reducible rfl
        simp only [Act.put, List.setIfInBounds_toArray, List.set_cons_zero, List.set_cons_succ, List.getElem_toArray, List.getElem_cons_zero, List.getElem_cons_succ]
        refine wpAnyH_ready (rs := [6]) (by kernel_rfl) (by simp) (AllReadyH.cons rfl (fun K hK => ?_) AllReadyH.nil)
        go_simp
        refine hK.out _ _ ?_ (fun hHeld => ?_)
        · exact hHeld.alloc hHeld.size _
        clear hK K
        refine wpAnyH_take (i := 7) (v := ?_) rfl (by kernel_rfl) (by kernel_rfl) (by kernel_rfl) (fun _ _ _ h => h) (Or.inl ⟨by rfl, ?_⟩) (by assumption) ?_
        rotate_left 1
        · intro wz _
          go_simp
          all_goals with_reducible rfl
        simp only [Act.put, List.setIfInBounds_toArray, List.set_cons_zero, List.set_cons_succ, List.getElem_toArray, List.getElem_cons_zero, List.getElem_cons_succ]
        refine wpAnyH_ready (rs := [8]) (by kernel_rfl) (by simp) (AllReadyH.cons rfl (fun K hK => ?_) AllReadyH.nil)
        go_simp
        refine hK.out _ _ ?_ (fun hHeld => ?_)
        · exact hHeld.alloc hHeld.size _
        clear hK K
        refine wpAnyH_take (i := 9) (v := ?_) rfl (by kernel_rfl) (by kernel_rfl) (by kernel_rfl) (fun _ _ _ h => h) (Or.inl ⟨by rfl, ?_⟩) (by assumption) ?_
        rotate_left 1
        · intro wz _
          go_simp
          all_goals with_reducible rfl
        simp only [Act.put, List.setIfInBounds_toArray, List.set_cons_zero, List.set_cons_succ, List.getElem_toArray, List.getElem_cons_zero, List.getElem_cons_succ]
        refine wpAnyH_done (by kernel_rfl) ?_ _
        obtain ⟨e0, e1, e2, e3⟩ := chain4 V0 (.cells (madeCells #[.slice none 0 0, .bool false] (n * 2)) 90) (.cells #[.slice none 0 0, .slice none 0 0, .slice none 0 0, .slice none 0 0, .slice none 0 0, .slice none 0 0, .slice none 0 0, .slice none 0 0] 52) (.cells (madeCells #[.bool false] n) 4) (nbO (V0.heap.size) (V0.heap.size + 1) (V0.heap.size + 1 + 1) n (.slice none 0 0) (.slice none 0 0) c)
        have hsz := hV0.size
        have HN := hideIt (NbS.mk hHeld e3 e0 e1 e2 (HRow.out _) (HRow.out _) (fun b hb => by cases hb) ⟨by omega, by omega, by omega, by omega⟩)
        clear e0 e1 e2 e3 hHeld hV0
        go_wp2
        go_meet
        exact ⟨_, _, _, _, rfl, HN.out⟩
      · go_simp
        refine hK.out _ _ ?_ (fun hHeld => ?_)
        · exact hHeld.alloc hHeld.size _
        clear hK K
        refine wpAnyH_ready (rs := [3]) (by kernel_rfl) (by simp) (AllReadyH.cons rfl (fun K hK => ?_) AllReadyH.nil)
        go_simp
        refine hK.out _ _ ?_ (fun hHeld => ?_)
        · exact hHeld.alloc hHeld.size _
        clear hK K
        refine wpAnyH_take (i := 4) (v := ?_) rfl (by kernel_rfl) (by kernel_rfl) (by kernel_rfl) (fun _ _ _ h => h) (Or.inl ⟨by rfl, ?_⟩) (by assumption) ?_
        rotate_left 1
        · intro wz _
          go_simp
          all_goals with_reducible rfl
        simp only [Act.put, List.setIfInBounds_toArray, List.set_cons_zero, List.set_cons_succ, List.getElem_toArray, List.getElem_cons_zero, List.getElem_cons_succ]
        refine wpAnyH_take (i := 7) (v := ?_) rfl (by kernel_rfl) (by kernel_rfl) (by kernel_rfl) (fun _ _ _ h => h) (Or.inl ⟨by rfl, ?_⟩) (by assumption) ?_
        rotate_left 1
        · intro wz _
          go_simp
          all_goals with_reducible rfl
        simp only [Act.put, List.setIfInBounds_toArray, List.set_cons_zero, List.set_cons_succ, List.getElem_toArray, List.getElem_cons_zero, List.getElem_cons_succ]
        refine wpAnyH_ready (rs := [8]) (by kernel_rfl) (by simp) (AllReadyH.cons rfl (fun K hK => ?_) AllReadyH.nil)
        go_simp
        refine hK.out _ _ ?_ (fun hHeld => ?_)
        · exact hHeld.alloc hHeld.size _
        clear hK K
        refine wpAnyH_take (i := 9) (v := ?_) rfl (by kernel_rfl) (by kernel_rfl) (by kernel_rfl) (fun _ _ _ h => h) (Or.inl ⟨by rfl, ?_⟩) (by assumption) ?_
        rotate_left 1
        · intro wz _
          go_simp
          all_goals with_reducible rfl
        simp only [Act.put, List.setIfInBounds_toArray, List.set_cons_zero, List.set_cons_succ, List.getElem_toArray, List.getElem_cons_zero, List.getElem_cons_succ]
        refine wpAnyH_done (by kernel_rfl) ?_ _
        obtain ⟨e0, e1, e2, e3⟩ := chain4 V0 (.cells (madeCells #[.slice none 0 0, .bool false] (n * 2)) 90) (.cells (madeCells #[.bool false] n) 4) (.cells #[.slice none 0 0, .slice none 0 0, .slice none 0 0, .slice none 0 0, .slice none 0 0, .slice none 0 0, .slice none 0 0, .slice none 0 0] 52) (nbO (V0.heap.size) (V0.heap.size + 1 + 1) (V0.heap.size + 1) n (.slice none 0 0) (.slice none 0 0) c)
        have hsz := hV0.size
        have HN := hideIt (NbS.mk hHeld e3 e0 e2 e1 (HRow.out _) (HRow.out _) (fun b hb => by cases hb) ⟨by omega, by omega, by omega, by omega⟩)
        clear e0 e1 e2 e3 hHeld hV0
        go_wp2
        go_meet
        exact ⟨_, _, _, _, rfl, HN.out⟩
    · go_simp
      refine hK.out _ _ ?_ (fun hHeld => ?_)
      · exact hHeld.alloc hHeld.size _
      clear hK K
      refine wpAnyH_ready (rs := [2, 6]) (by kernel_rfl) (by simp) (AllReadyH.cons rfl (fun K hK => ?_) (AllReadyH.cons rfl (fun K hK => ?_) AllReadyH.nil))
      · go_simp
        refine hK.out _ _ ?_ (fun hHeld => ?_)
        · exact hHeld.alloc hHeld.size _
        clear hK K
        refine wpAnyH_take (i := 4) (v := ?_) rfl (by kernel_rfl) (by kernel_rfl) (by kernel_rfl) (fun _ _ _ h => h) (Or.inl ⟨by rfl, ?_⟩) (by assumption) ?_
        rotate_left 1
        · intro wz _
          go_simp
          all_goals with_reducible rfl
        simp only [Act.put, List.setIfInBounds_toArray, List.set_cons_zero, List.set_cons_succ, List.getElem_toArray, List.getElem_cons_zero, List.getElem_cons_succ]
        refine wpAnyH_ready (rs := [6]) (by kernel_rfl) (by simp) (AllReadyH.cons rfl (fun K hK => ?_) AllReadyH.nil)
        go_simp
        refine hK.out _ _ ?_ (fun hHeld => ?_)
        · exact hHeld.alloc hHeld.size _
        clear hK K
        refine wpAnyH_take (i := 7) (v := ?_) rfl (by kernel_rfl) (by kernel_rfl) (by kernel_rfl) (fun _ _ _ h => h) (Or.inl ⟨by rfl, ?_⟩) (by assumption) ?_
        rotate_left 1
        · intro wz _
          go_simp
          all_goals with_reducible rfl
        simp only [Act.put, List.setIfInBounds_toArray, List.set_cons_zero, List.set_cons_succ, List.getElem_toArray, List.getElem_cons_zero, List.getElem_cons_succ]
        refine wpAnyH_ready (rs := [8]) (by kernel_rfl) (by simp) (AllReadyH.cons rfl (fun K hK => ?_) AllReadyH.nil)
        go_simp
        refine hK.out _ _ ?_ (fun hHeld => ?_)
        · exact hHeld.alloc hHeld.size _
        clear hK K
        refine wpAnyH_take (i := 9) (v := ?_) rfl (by kernel_rfl) (by kernel_rfl) (by kernel_rfl) (fun _ _ _ h => h) (Or.inl ⟨by rfl, ?_⟩) (by assumption) ?_
        rotate_left 1
        · intro wz _
          go_simp
          all_goals with_reducible rfl
        simp only [Act.put, List.setIfInBounds_toArray, List.set_cons_zero, List.set_cons_succ, List.getElem_toArray, List.getElem_cons_zero, List.getElem_cons_succ]
        refine wpAnyH_done (by kernel_rfl) ?_ _
        obtain ⟨e0, e1, e2, e3⟩ := chain4 V0 (.cells #[.slice none 0 0, .slice none 0 0, .slice none 0 0, .slice none 0 0, .slice none 0 0, .slice none 0 0, .slice none 0 0, .slice none 0 0] 52) (.cells (madeCells #[.slice none 0 0, .bool false] (n * 2)) 90) (.cells (madeCells #[.bool false] n) 4) (nbO (V0.heap.size + 1) (V0.heap.size) (V0.heap.size + 1 + 1) n (.slice none 0 0) (.slice none 0 0) c)
        have hsz := hV0.size
        have HN := hideIt (NbS.mk hHeld e3 e1 e0 e2 (HRow.out _) (HRow.out _) (fun b hb => by cases hb) ⟨by omega, by omega, by omega, by omega⟩)
        clear e0 e1 e2 e3 hHeld hV0
        go_wp2
        go_meet
        exact ⟨_, _, _, _, rfl, HN.out⟩
      · go_simp
        refine hK.out _ _ ?_ (fun hHeld => ?_)
        · exact hHeld.alloc hHeld.size _
        clear hK K
        refine wpAnyH_ready (rs := [2]) (by kernel_rfl) (by simp) (AllReadyH.cons rfl (fun K hK => ?_) AllReadyH.nil)
        go_simp
        refine hK.out _ _ ?_ (fun hHeld => ?_)
        · exact hHeld.alloc hHeld.size _
        clear hK K
        refine wpAnyH_take (i := 4) (v := ?_) rfl (by kernel_rfl) (by kernel_rfl) (by kernel_rfl) (fun _ _ _ h => h) (Or.inl ⟨by rfl, ?_⟩) (by assumption) ?_
        rotate_left 1
        · intro wz _
          go_simp
          all_goals with_reducible rfl
        simp only [Act.put, List.setIfInBounds_toArray, List.set_cons_zero, List.set_cons_succ, List.getElem_toArray, List.getElem_cons_zero, List.getElem_cons_succ]
        refine wpAnyH_take (i := 7) (v := ?_) rfl (by kernel_rfl) (by kernel_rfl) (by kernel_rfl) (fun _ _ _ h => h) (Or.inl ⟨by rfl, ?_⟩) (by assumption) ?_
        rotate_left 1
        · intro wz _
          go_simp
          all_goals with_reducible rfl
        simp only [Act.put, List.setIfInBounds_toArray, List.set_cons_zero, List.set_cons_succ, List.getElem_toArray, List.getElem_cons_zero, List.getElem_cons_succ]
        refine wpAnyH_ready (rs := [8]) (by kernel_rfl) (by simp) (AllReadyH.cons rfl (fun K hK => ?_) AllReadyH.nil)
        go_simp
        refine hK.out _ _ ?_ (fun hHeld => ?_)
        · exact hHeld.alloc hHeld.size _
        clear hK K
        refine wpAnyH_take (i := 9) (v := ?_) rfl (by kernel_rfl) (by kernel_rfl) (by kernel_rfl) (fun _ _ _ h => h) (Or.inl ⟨by rfl, ?_⟩) (by assumption) ?_
        rotate_left 1
        · intro wz _
          go_simp
          all_goals with_reducible rfl
        simp only [Act.put, List.setIfInBounds_toArray, List.set_cons_zero, List.set_cons_succ, List.getElem_toArray, List.getElem_cons_zero, List.getElem_cons_succ]
        refine wpAnyH_done (by kernel_rfl) ?_ _
        obtain ⟨e0, e1, e2, e3⟩ := chain4 V0 (.cells #[.slice none 0 0, .slice none 0 0, .slice none 0 0, .slice none 0 0, .slice none 0 0, .slice none 0 0, .slice none 0 0, .slice none 0 0] 52) (.cells (madeCells #[.bool false] n) 4) (.cells (madeCells #[.slice none 0 0, .bool false] (n * 2)) 90) (nbO (V0.heap.size + 1 + 1) (V0.heap.size) (V0.heap.size + 1) n (.slice none 0 0) (.slice none 0 0) c)
        have hsz := hV0.size
        have HN := hideIt (NbS.mk hHeld e3 e2 e0 e1 (HRow.out _) (HRow.out _) (fun b hb => by cases hb) ⟨by omega, by omega, by omega, by omega⟩)
        clear e0 e1 e2 e3 hHeld hV0
        go_wp2
        go_meet
        exact ⟨_, _, _, _, rfl, HN.out⟩
    · go_simp
      refine hK.out _ _ ?_ (fun hHeld => ?_)
      · exact hHeld.alloc hHeld.size _
      clear hK K
      refine wpAnyH_ready (rs := [2, 3]) (by kernel_rfl) (by simp) (AllReadyH.cons rfl (fun K hK => ?_) (AllReadyH.cons rfl (fun K hK => ?_) AllReadyH.nil))
      · go_simp
        refine hK.out _ _ ?_ (fun hHeld => ?_)
        · exact hHeld.alloc hHeld.size _
        clear hK K
        refine wpAnyH_ready (rs := [3]) (by kernel_rfl) (by simp) (AllReadyH.cons rfl (fun K hK => ?_) AllReadyH.nil)
        go_simp
        refine hK.out _ _ ?_ (fun hHeld => ?_)
        · exact hHeld.alloc hHeld.size _
        clear hK K
        refine wpAnyH_take (i := 4) (v := ?_) rfl (by kernel_rfl) (by kernel_rfl) (by kernel_rfl) (fun _ _ _ h => h) (Or.inl ⟨by rfl, ?_⟩) (by assumption) ?_
        rotate_left 1
        · intro wz _
          go_simp
          all_goals with_reducible rfl
        simp only [Act.put, List.setIfInBounds_toArray, List.set_cons_zero, List.set_cons_succ, List.getElem_toArray, List.getElem_cons_zero, List.getElem_cons_succ]
        refine wpAnyH_take (i := 7) (v := ?_) rfl (by kernel_rfl) (by kernel_rfl) (by kernel_rfl) (fun _ _ _ h => h) (Or.inl ⟨by rfl, ?_⟩) (by assumption) ?_
        rotate_left 1
        · intro wz _
          go_simp
          all_goals with_reducible rfl
        simp only [Act.put, List.setIfInBounds_toArray, List.set_cons_zero, List.set_cons_succ, List.getElem_toArray, List.getElem_cons_zero, List.getElem_cons_succ]
        refine wpAnyH_ready (rs := [8]) (by kernel_rfl) (by simp) (AllReadyH.cons rfl (fun K hK => ?_) AllReadyH.nil)
        go_simp
        refine hK.out _ _ ?_ (fun hHeld => ?_)
        · exact hHeld.alloc hHeld.size _
        clear hK K
        refine wpAnyH_take (i := 9) (v := ?_) rfl (by kernel_rfl) (by kernel_rfl) (by kernel_rfl) (fun _ _ _ h => h) (Or.inl ⟨by rfl, ?_⟩) (by assumption) ?_
        rotate_left 1
        · intro wz _
          go_simp
          all_goals with_reducible rfl
        simp only [Act.put, List.setIfInBounds_toArray, List.set_cons_zero, List.set_cons_succ, List.getElem_toArray, List.getElem_cons_zero, List.getElem_cons_succ]
        refine wpAnyH_done (by kernel_rfl) ?_ _
        obtain ⟨e0, e1, e2, e3⟩ := chain4 V0 (.cells (madeCells #[.bool false] n) 4) (.cells (madeCells #[.slice none 0 0, .bool false] (n * 2)) 90) (.cells #[.slice none 0 0, .slice none 0 0, .slice none 0 0, .slice none 0 0, .slice none 0 0, .slice none 0 0, .slice none 0 0, .slice none 0 0] 52) (nbO (V0.heap.size + 1) (V0.heap.size + 1 + 1) (V0.heap.size) n (.slice none 0 0) (.slice none 0 0) c)
        have hsz := hV0.size
        have HN := hideIt (NbS.mk hHeld e3 e1 e2 e0 (HRow.out _) (HRow.out _) (fun b hb => by cases hb) ⟨by omega, by omega, by omega, by omega⟩)
        clear e0 e1 e2 e3 hHeld hV0
        go_wp2
        go_meet
        exact ⟨_, _, _, _, rfl, HN.out⟩
      · go_simp
        refine hK.out _ _ ?_ (fun hHeld => ?_)
        · exact hHeld.alloc hHeld.size _
        clear hK K
        refine wpAnyH_ready (rs := [2]) (by kernel_rfl) (by simp) (AllReadyH.cons rfl (fun K hK => ?_) AllReadyH.nil)
        go_simp
        refine hK.out _ _ ?_ (fun hHeld => ?_)
        · exact hHeld.alloc hHeld.size _
        clear hK K
        refine wpAnyH_take (i := 4) (v := ?_) rfl (by kernel_rfl) (by kernel_rfl) (by kernel_rfl) (fun _ _ _ h => h) (Or.inl ⟨by rfl, ?_⟩) (by assumption) ?_
        rotate_left 1
        · intro wz _
          go_simp
          all_goals with_reducible rfl
        simp only [Act.put, List.setIfInBounds_toArray, List.set_cons_zero, List.set_cons_succ, List.getElem_toArray, List.getElem_cons_zero, List.getElem_cons_succ]
        refine wpAnyH_take (i := 7) (v := ?_) rfl (by kernel_rfl) (by kernel_rfl) (by kernel_rfl) (fun _ _ _ h => h) (Or.inl ⟨by rfl, ?_⟩) (by assumption) ?_
        rotate_left 1
        · intro wz _
          go_simp
          all_goals with_reducible rfl
        simp only [Act.put, List.setIfInBounds_toArray, List.set_cons_zero, List.set_cons_succ, List.getElem_toArray, List.getElem_cons_zero, List.getElem_cons_succ]
        refine wpAnyH_ready (rs := [8]) (by kernel_rfl) (by simp) (AllReadyH.cons rfl (fun K hK => ?_) AllReadyH.nil)
        go_simp
        refine hK.out _ _ ?_ (fun hHeld => ?_)
        · exact hHeld.alloc hHeld.size _
        clear hK K
        refine wpAnyH_take (i := 9) (v := ?_) rfl (by kernel_rfl) (by kernel_rfl) (by kernel_rfl) (fun _ _ _ h => h) (Or.inl ⟨by rfl, ?_⟩) (by assumption) ?_
        rotate_left 1
        · intro wz _
          go_simp
          all_goals with_reducible rfl
        simp only [Act.put, List.setIfInBounds_toArray, List.set_cons_zero, List.set_cons_succ, List.getElem_toArray, List.getElem_cons_zero, List.getElem_cons_succ]
        refine wpAnyH_done (by kernel_rfl) ?_ _
        obtain ⟨e0, e1, e2, e3⟩ := chain4 V0 (.cells (madeCells #[.bool false] n) 4) (.cells #[.slice none 0 0, .slice none 0 0, .slice none 0 0, .slice none 0 0, .slice none 0 0, .slice none 0 0, .slice none 0 0, .slice none 0 0] 52) (.cells (madeCells #[.slice none 0 0, .bool false] (n * 2)) 90) (nbO (V0.heap.size + 1 + 1) (V0.heap.size + 1) (V0.heap.size) n (.slice none 0 0) (.slice none 0 0) c)
        have hsz := hV0.size
        have HN := hideIt (NbS.mk hHeld e3 e2 e1 e0 (HRow.out _) (HRow.out _) (fun b hb => by cases hb) ⟨by omega, by omega, by omega, by omega⟩)
        clear e0 e1 e2 e3 hHeld hV0
        go_wp2
        go_meet
        exact ⟨_, _, _, _, rfl, HN.out⟩
  case rest =>
    clear hm1 hm2 hm3 HRow
    obtain ⟨B, T, R, O, rfl, hN0⟩ := hcut
    have HN0 := hideIt hN0
    clear hN0
    go_wp2
    go_loopw [16] (fun v wr => ∃ m : Nat, m ≤ n ∧ v = .int .i64 m ∧ ∃ vb ve, NbS W wr B T R O vb ve c n m) (fun v _ => n - (intOf v).toNat)
    case atStart => exact ⟨0, Nat.zero_le _, rfl, _, _, HN0.out⟩
    case round =>
      clear HN0
      obtain ⟨m, hm, rfl, vb, ve, hN⟩ := hrel
      have HN0 := hideIt hN
      by_cases hmn : m < n
      · have hmn' : (m : Int) < (n : Int) := by omega
        have hblk := hN.blk
        unfold nbO at hblk
        have u3 : wr.cell? ⟨B, 3, none⟩ = some vb := by rw [cell_of_row _ _ _ _ 81 _ hblk]; rfl
        have u4 : wr.cell? ⟨B, 4, none⟩ = some ve := by rw [cell_of_row _ _ _ _ 81 _ hblk]; rfl
        have hBl := lt_of_heap hN.blk
        have HX0 : Hid (∀ {vb' : Value} {Y : World}, NbX W wr Y vb vb' m → Y.cell? ⟨B, 3, none⟩ = some vb ∧ Y.cell? ⟨B, 4, none⟩ = some ve) := fun {vb' Y} hX => by
          have e := hX.kept B hBl fun e => ne_tagD (nb_tags HN0.out).1 (own_tagD HN0.out.vbo e) (by decide) rfl
          exact ⟨(World.cell?_of_block (a := ⟨B, 3, none⟩) e).trans u3, (World.cell?_of_block (a := ⟨B, 4, none⟩) e).trans u4⟩
        clear hN hblk
        go_upto_region 4 with fail
        refine wp_region_L (B := [16, 19]) (S := (fun _ => True)) (T := (fun w' => w'.cell? ⟨B, 3, none⟩ = some vb ∧ w'.cell? ⟨B, 4, none⟩ = some ve)) (by kernel_rfl) ⟨trivial, u3, u4⟩ (fun hHeld => ?_)
        refine wpAnyL_takeS (i := 0) (v := ?_) rfl (by kernel_rfl) (by kernel_rfl) (by kernel_rfl) (by kernel_rfl) (fun _ _ _ h => h) (Or.inl ⟨by rfl, ?_⟩) (by assumption) ?_
        rotate_left 1
        · intro wz _
          go_simp
          all_goals with_reducible rfl
        simp only [Act.put, List.setIfInBounds_toArray, List.set_cons_zero, List.set_cons_succ, List.getElem_toArray, List.getElem_cons_zero]
        refine wpAnyL_takeS (i := 1) (v := ?_) rfl (by kernel_rfl) (by kernel_rfl) (by kernel_rfl) (by kernel_rfl) (fun _ _ _ h => h) (Or.inl ⟨by rfl, ?_⟩) (by assumption) ?_
        rotate_left 1
        · intro wz _
          go_simp
          all_goals with_reducible rfl
        simp only [Act.put, List.setIfInBounds_toArray, List.set_cons_zero, List.set_cons_succ, List.getElem_toArray, List.getElem_cons_zero, List.getElem_cons_succ]
        refine wpAnyL_takeS (i := 2) (v := ?_) rfl (by kernel_rfl) (by kernel_rfl) (by kernel_rfl) (by kernel_rfl) (fun _ _ _ h => h) (Or.inl ⟨by rfl, ?_⟩) (by assumption) ?_
        rotate_left 1
        · intro wz _
          go_simp
          all_goals with_reducible rfl
        simp only [Act.put, List.setIfInBounds_toArray, List.set_cons_zero, List.set_cons_succ, List.getElem_toArray, List.getElem_cons_zero, List.getElem_cons_succ]
        refine wpAnyL_takeS (i := 3) (v := ?_) rfl (by kernel_rfl) (by kernel_rfl) (by kernel_rfl) (by kernel_rfl) (fun _ _ _ h => h) (Or.inl ⟨by rfl, ?_⟩) (by assumption) ?_
        rotate_left 1
        · intro wz _
          go_simp
          all_goals with_reducible rfl
        simp only [Act.put, List.setIfInBounds_toArray, List.set_cons_zero, List.set_cons_succ, List.getElem_toArray, List.getElem_cons_zero, List.getElem_cons_succ]
        refine wpAnyL_takeS (i := 4) (v := ?_) rfl (by kernel_rfl) (by kernel_rfl) (by kernel_rfl) (by kernel_rfl) (fun _ _ _ h => h) (Or.inl ⟨by rfl, ?_⟩) (by assumption) ?_
        rotate_left 1
        · intro wz _
          go_simp
          all_goals with_reducible rfl
        simp only [Act.put, List.setIfInBounds_toArray, List.set_cons_zero, List.set_cons_succ, List.getElem_toArray, List.getElem_cons_zero, List.getElem_cons_succ]
        refine wpAnyL_take [16,19] (i := 5) (v := ?_) rfl (by kernel_rfl) (by kernel_rfl) (by kernel_rfl) (by kernel_rfl) (fun _ _ _ h => h) (Or.inl ⟨by rfl, ?_⟩) (by assumption) ?_
        rotate_left 1
        · intro wz ⟨_, ⟨y0,_⟩⟩
          go_simp
          all_goals with_reducible rfl
        simp only [Act.put, List.setIfInBounds_toArray, List.set_cons_zero, List.set_cons_succ, List.getElem_toArray, List.getElem_cons_zero, List.getElem_cons_succ]
        refine wpAnyL_takeS (i := 8) (v := ?_) rfl (by kernel_rfl) (by kernel_rfl) (by kernel_rfl) (by kernel_rfl) (fun _ _ _ h => h) (Or.inl ⟨by rfl, ?_⟩) (by assumption) ?_
        rotate_left 1
        · intro wz _
          go_simp
          all_goals with_reducible rfl
        simp only [Act.put, List.setIfInBounds_toArray, List.set_cons_zero, List.set_cons_succ, List.getElem_toArray, List.getElem_cons_zero, List.getElem_cons_succ]
        refine wpAnyL_takeS (i := 9) (v := ?_) rfl (by kernel_rfl) (by kernel_rfl) (by kernel_rfl) (by kernel_rfl) (fun _ _ _ h => h) (Or.inl ⟨by rfl, ?_⟩) (by assumption) ?_
        rotate_left 1
        · intro wz _
          go_simp
          all_goals with_reducible rfl
        simp only [Act.put, List.setIfInBounds_toArray, List.set_cons_zero, List.set_cons_succ, List.getElem_toArray, List.getElem_cons_zero, List.getElem_cons_succ]
        refine wpAnyL_takeS (i := 10) (v := ?_) rfl (by kernel_rfl) (by kernel_rfl) (by kernel_rfl) (by kernel_rfl) (fun _ _ _ h => h) (Or.inl ⟨by rfl, ?_⟩) (by assumption) ?_
        rotate_left 1
        · intro wz _
          go_simp
          all_goals with_reducible rfl
        simp only [Act.put, List.setIfInBounds_toArray, List.set_cons_zero, List.set_cons_succ, List.getElem_toArray, List.getElem_cons_zero, List.getElem_cons_succ]
        refine wpAnyL_take [16,19] (i := 11) (v := ?_) rfl (by kernel_rfl) (by kernel_rfl) (by kernel_rfl) (by kernel_rfl) (fun _ _ _ h => h) (Or.inl ⟨by rfl, ?_⟩) (by assumption) ?_
        rotate_left 1
        · intro wz ⟨_, ⟨_,y1⟩⟩
          go_simp
          all_goals with_reducible rfl
        simp only [Act.put, List.setIfInBounds_toArray, List.set_cons_zero, List.set_cons_succ, List.getElem_toArray, List.getElem_cons_zero, List.getElem_cons_succ]
        have hb0 : Below wr.heap.size wr wr.drew := (Below.refl _ _).drew
        have hd3 : wr.drew.cell? ⟨B, 3, none⟩ = some vb := u3
        have hd4 : wr.drew.cell? ⟨B, 4, none⟩ = some ve := u4
        generalize wr.drew = V0 at hHeld hb0 hd3 hd4 ⊢
        refine wpAnyL_ready (rs := [6, 12]) (by kernel_rfl) (by simp) (AllReadyL.cons rfl (fun K hK => ?_) (AllReadyL.cons rfl (fun K hK => ?_) AllReadyL.nil))
        · go_simp
          have hbA := belA hb0 (.cells #[.int .i64 (-1)] 3)
          have g1 : (V0.alloc (.cells #[.int .i64 (-1)] 3)).cell? ⟨V0.heap.size, 0, none⟩ = some (.int .i64 (-1)) := by simp
          have e3 : (V0.alloc (.cells #[.int .i64 (-1)] 3)).cell? ⟨B, 3, none⟩ = some vb := cellA hd3
          have e4 : (V0.alloc (.cells #[.int .i64 (-1)] 3)).cell? ⟨B, 4, none⟩ = some ve := cellA hd4
          refine hK.out _ _ ⟨trivial, e3, e4⟩ (fun hHeld => ?_)
          clear hK K
          have hlV : V0.heap.size < (V0.alloc (.cells #[.int .i64 (-1)] 3)).heap.size := by simp
          have hlw : wr.heap.size ≤ V0.heap.size := hb0.size
          generalize V0.alloc (.cells #[.int .i64 (-1)] 3) = V1 at *
          refine wpAnyL_ready (rs := [7, 12]) (by kernel_rfl) (by simp) (AllReadyL.cons rfl (fun K hK => ?_) (AllReadyL.cons rfl (fun K hK => ?_) AllReadyL.nil))
          · skip
            obtain ⟨va1, vc1, Y8, hr1, hX, hk8⟩ := HN0.out.first (by omega) hbA g1
            refine step_append_run (by rfl) _ _ 52 (by rfl) _ _ _ Y8 (by rfl) (by rfl) hr1 ?_
            refine hK.out _ _ ⟨trivial, HX0.out hX⟩ (fun hHeld => ?_)
            clear hK K hr1
            simp only [Act.put, List.setIfInBounds_toArray, List.set_cons_zero, List.set_cons_succ, List.getElem_toArray, List.getElem_cons_zero, List.getElem_cons_succ]
            refine wpAnyL_ready (rs := [12]) (by kernel_rfl) (by simp) (AllReadyL.cons rfl (fun K hK => ?_) AllReadyL.nil)
            go_simp
            have g2 : (Y8.alloc (.cells #[.int .i64 (-1)] 3)).cell? ⟨Y8.heap.size, 0, none⟩ = some (.int .i64 (-1)) := by simp
            replace hX := hX.below (belA (Below.refl Y8.heap.size Y8) (.cells #[.int .i64 (-1)] 3))
            refine hK.out _ _ ⟨trivial, HX0.out hX⟩ (fun hHeld => ?_)
            clear hK K
            generalize Y8.alloc (.cells #[.int .i64 (-1)] 3) = Y7 at *
            obtain ⟨va2, vc2, Y9, hr2, s3, s4, sf, hN⟩ := HN0.out.second (by omega) hX g2
            have HNN := hideIt hN
            have s4' : (Y9.setCell ⟨B, 3, none⟩ (.slice va1 (m + 1) vc1)).cell? ⟨B, 4, none⟩ = some ve := (World.cell?_setCell_other _ _ _ _ (offNe (by omega))).trans s4
            have sf' : (Y9.setCell ⟨B, 3, none⟩ (.slice va1 (m + 1) vc1)).frozen? ⟨B, 4, none⟩ = false := by rw [World.frozen?_setCell]; exact sf 4
            have sf3 := sf 3
            refine wpAnyL_ready (rs := [13]) (by kernel_rfl) (by simp) (AllReadyL.cons rfl (fun K hK => ?_) AllReadyL.nil)
            refine step_append_run (by rfl) _ _ 52 (by rfl) _ _ _ Y9 (by rfl) (by rfl) hr2 ?_
            refine hK.out _ _ ⟨trivial, s3, s4⟩ (fun hHeld => ?_)
            clear hK K hN hr2 hX sf
            simp only [Act.put, List.setIfInBounds_toArray, List.set_cons_zero, List.set_cons_succ, List.getElem_toArray, List.getElem_cons_zero, List.getElem_cons_succ]
            refine wpAnyL_takeS (i := 14) (v := ?_) rfl (by kernel_rfl) (by kernel_rfl) (by kernel_rfl) (by kernel_rfl) (fun _ _ _ h => h) (Or.inl ⟨by rfl, ?_⟩) (by assumption) ?_
            rotate_left 1
            · intro wz _
              go_simp
              all_goals with_reducible rfl
            simp only [Act.put, List.setIfInBounds_toArray, List.set_cons_zero, List.set_cons_succ, List.getElem_toArray, List.getElem_cons_zero, List.getElem_cons_succ]
            refine wpAnyL_takeS (i := 15) (v := ?_) rfl (by kernel_rfl) (by kernel_rfl) (by kernel_rfl) (by kernel_rfl) (fun _ _ _ h => h) (Or.inl ⟨by rfl, ?_⟩) (by assumption) ?_
            rotate_left 1
            · intro wz _
              go_simp
              all_goals with_reducible rfl
            simp only [Act.put, List.setIfInBounds_toArray, List.set_cons_zero, List.set_cons_succ, List.getElem_toArray, List.getElem_cons_zero, List.getElem_cons_succ]
            refine wpAnyL_ready (rs := [16]) (by kernel_rfl) (by simp) (AllReadyL.last rfl (by kernel_rfl) (fun K hK => ?_) AllReadyL.nil)
            go_simp
            refine hK.out _ _ trivial (fun hHeld => ?_)
            clear hK K
            refine wpAnyL_takeE (i := 17) (v := ?_) rfl (by kernel_rfl) (by kernel_rfl) (by kernel_rfl) (by kernel_rfl) (by kernel_rfl) (fun _ _ _ h => h) (Or.inl ⟨by rfl, ?_⟩) (by assumption) ?_
            rotate_left 1
            · intro wz _
              go_simp
              all_goals with_reducible rfl
            simp only [Act.put, List.setIfInBounds_toArray, List.set_cons_zero, List.set_cons_succ, List.getElem_toArray, List.getElem_cons_zero, List.getElem_cons_succ]
            refine wpAnyL_takeE (i := 18) (v := ?_) rfl (by kernel_rfl) (by kernel_rfl) (by kernel_rfl) (by kernel_rfl) (by kernel_rfl) (fun _ _ _ h => h) (Or.inl ⟨by rfl, ?_⟩) (by assumption) ?_
            rotate_left 1
            · intro wz _
              go_simp
              all_goals with_reducible rfl
            simp only [Act.put, List.setIfInBounds_toArray, List.set_cons_zero, List.set_cons_succ, List.getElem_toArray, List.getElem_cons_zero, List.getElem_cons_succ]
            refine wpAnyL_ready (rs := [19]) (by kernel_rfl) (by simp) (AllReadyL.last rfl (by kernel_rfl) (fun K hK => ?_) AllReadyL.nil)
            go_simp
            refine hK.out _ _ trivial (fun hHeld => ?_)
            clear hK K
            refine wpAnyL_done (by kernel_rfl) ?_ _
            go_wp2
            go_roundw
            case rel => exact ⟨m + 1, by omega, by go_num, _, _, HNN.out⟩
            case measure => simp [intOf]; omega
          · go_simp
            have hbB := belA hbA (.cells #[.int .i64 (-1)] 3)
            have g2 : (V1.alloc (.cells #[.int .i64 (-1)] 3)).cell? ⟨V1.heap.size, 0, none⟩ = some (.int .i64 (-1)) := by simp
            have g1' : (V1.alloc (.cells #[.int .i64 (-1)] 3)).cell? ⟨V0.heap.size, 0, none⟩ = some (.int .i64 (-1)) := cellA g1
            refine hK.out _ _ ⟨trivial, cellA e3, cellA e4⟩ (fun hHeld => ?_)
            clear hK K
            have hl1 : V1.heap.size < (V1.alloc (.cells #[.int .i64 (-1)] 3)).heap.size := by simp
            generalize V1.alloc (.cells #[.int .i64 (-1)] 3) = V2 at *
            refine wpAnyL_ready (rs := [7]) (by kernel_rfl) (by simp) (AllReadyL.cons rfl (fun K hK => ?_) AllReadyL.nil)
            obtain ⟨va1, vc1, Y8, hr1, hX, hk8⟩ := HN0.out.first (by omega) hbB g1'
            refine step_append_run (by rfl) _ _ 52 (by rfl) _ _ _ Y8 (by rfl) (by rfl) hr1 ?_
            refine hK.out _ _ ⟨trivial, HX0.out hX⟩ (fun hHeld => ?_)
            clear hK K hr1
            simp only [Act.put, List.setIfInBounds_toArray, List.set_cons_zero, List.set_cons_succ, List.getElem_toArray, List.getElem_cons_zero, List.getElem_cons_succ]
            have g3 : Y8.cell? ⟨V1.heap.size, 0, none⟩ = some (.int .i64 (-1)) := (World.cell?_of_block (a := ⟨V1.heap.size, 0, none⟩) (hk8 V1.heap.size (by have := hbA.size; omega) hl1)).trans g2
            obtain ⟨va2, vc2, Y9, hr2, s3, s4, sf, hN⟩ := HN0.out.second (by omega) hX g3
            have HNN := hideIt hN
            have s4' : (Y9.setCell ⟨B, 3, none⟩ (.slice va1 (m + 1) vc1)).cell? ⟨B, 4, none⟩ = some ve := (World.cell?_setCell_other _ _ _ _ (offNe (by omega))).trans s4
            have sf' : (Y9.setCell ⟨B, 3, none⟩ (.slice va1 (m + 1) vc1)).frozen? ⟨B, 4, none⟩ = false := by rw [World.frozen?_setCell]; exact sf 4
            have sf3 := sf 3
            refine wpAnyL_ready (rs := [13]) (by kernel_rfl) (by simp) (AllReadyL.cons rfl (fun K hK => ?_) AllReadyL.nil)
            refine step_append_run (by rfl) _ _ 52 (by rfl) _ _ _ Y9 (by rfl) (by rfl) hr2 ?_
            refine hK.out _ _ ⟨trivial, s3, s4⟩ (fun hHeld => ?_)
            clear hK K hN hr2 hX sf
            simp only [Act.put, List.setIfInBounds_toArray, List.set_cons_zero, List.set_cons_succ, List.getElem_toArray, List.getElem_cons_zero, List.getElem_cons_succ]
            refine wpAnyL_takeS (i := 14) (v := ?_) rfl (by kernel_rfl) (by kernel_rfl) (by kernel_rfl) (by kernel_rfl) (fun _ _ _ h => h) (Or.inl ⟨by rfl, ?_⟩) (by assumption) ?_
            rotate_left 1
            · intro wz _
              go_simp
              all_goals with_reducible rfl
            simp only [Act.put, List.setIfInBounds_toArray, List.set_cons_zero, List.set_cons_succ, List.getElem_toArray, List.getElem_cons_zero, List.getElem_cons_succ]
            refine wpAnyL_takeS (i := 15) (v := ?_) rfl (by kernel_rfl) (by kernel_rfl) (by kernel_rfl) (by kernel_rfl) (fun _ _ _ h => h) (Or.inl ⟨by rfl, ?_⟩) (by assumption) ?_
            rotate_left 1
            · intro wz _
              go_simp
              all_goals with_reducible rfl
            simp only [Act.put, List.setIfInBounds_toArray, List.set_cons_zero, List.set_cons_succ, List.getElem_toArray, List.getElem_cons_zero, List.getElem_cons_succ]
            refine wpAnyL_ready (rs := [16]) (by kernel_rfl) (by simp) (AllReadyL.last rfl (by kernel_rfl) (fun K hK => ?_) AllReadyL.nil)
            go_simp
            refine hK.out _ _ trivial (fun hHeld => ?_)
            clear hK K
            refine wpAnyL_takeE (i := 17) (v := ?_) rfl (by kernel_rfl) (by kernel_rfl) (by kernel_rfl) (by kernel_rfl) (by kernel_rfl) (fun _ _ _ h => h) (Or.inl ⟨by rfl, ?_⟩) (by assumption) ?_
            rotate_left 1
            · intro wz _
              go_simp
              all_goals with_reducible rfl
            simp only [Act.put, List.setIfInBounds_toArray, List.set_cons_zero, List.set_cons_succ, List.getElem_toArray, List.getElem_cons_zero, List.getElem_cons_succ]
            refine wpAnyL_takeE (i := 18) (v := ?_) rfl (by kernel_rfl) (by kernel_rfl) (by kernel_rfl) (by kernel_rfl) (by kernel_rfl) (fun _ _ _ h => h) (Or.inl ⟨by rfl, ?_⟩) (by assumption) ?_
            rotate_left 1
            · intro wz _
              go_simp
              all_goals with_reducible rfl
            simp only [Act.put, List.setIfInBounds_toArray, List.set_cons_zero, List.set_cons_succ, List.getElem_toArray, List.getElem_cons_zero, List.getElem_cons_succ]
            refine wpAnyL_ready (rs := [19]) (by kernel_rfl) (by simp) (AllReadyL.last rfl (by kernel_rfl) (fun K hK => ?_) AllReadyL.nil)
            go_simp
            refine hK.out _ _ trivial (fun hHeld => ?_)
            clear hK K
            refine wpAnyL_done (by kernel_rfl) ?_ _
            go_wp2
            go_roundw
            case rel => exact ⟨m + 1, by omega, by go_num, _, _, HNN.out⟩
            case measure => simp [intOf]; omega
        · go_simp
          have hbA := belA hb0 (.cells #[.int .i64 (-1)] 3)
          have g1 : (V0.alloc (.cells #[.int .i64 (-1)] 3)).cell? ⟨V0.heap.size, 0, none⟩ = some (.int .i64 (-1)) := by simp
          have e3 : (V0.alloc (.cells #[.int .i64 (-1)] 3)).cell? ⟨B, 3, none⟩ = some vb := cellA hd3
          have e4 : (V0.alloc (.cells #[.int .i64 (-1)] 3)).cell? ⟨B, 4, none⟩ = some ve := cellA hd4
          refine hK.out _ _ ⟨trivial, e3, e4⟩ (fun hHeld => ?_)
          clear hK K
          have hlV : V0.heap.size < (V0.alloc (.cells #[.int .i64 (-1)] 3)).heap.size := by simp
          have hlw : wr.heap.size ≤ V0.heap.size := hb0.size
          generalize V0.alloc (.cells #[.int .i64 (-1)] 3) = V1 at *
          refine wpAnyL_ready (rs := [6]) (by kernel_rfl) (by simp) (AllReadyL.cons rfl (fun K hK => ?_) AllReadyL.nil)
          go_simp
          have hbB := belA hbA (.cells #[.int .i64 (-1)] 3)
          have g2 : (V1.alloc (.cells #[.int .i64 (-1)] 3)).cell? ⟨V1.heap.size, 0, none⟩ = some (.int .i64 (-1)) := by simp
          have g1' : (V1.alloc (.cells #[.int .i64 (-1)] 3)).cell? ⟨V0.heap.size, 0, none⟩ = some (.int .i64 (-1)) := cellA g1
          refine hK.out _ _ ⟨trivial, cellA e3, cellA e4⟩ (fun hHeld => ?_)
          clear hK K
          have hl1 : V1.heap.size < (V1.alloc (.cells #[.int .i64 (-1)] 3)).heap.size := by simp
          generalize V1.alloc (.cells #[.int .i64 (-1)] 3) = V2 at *
          refine wpAnyL_ready (rs := [7]) (by kernel_rfl) (by simp) (AllReadyL.cons rfl (fun K hK => ?_) AllReadyL.nil)
          obtain ⟨va1, vc1, Y8, hr1, hX, hk8⟩ := HN0.out.first (by omega) hbB g2
          refine step_append_run (by rfl) _ _ 52 (by rfl) _ _ _ Y8 (by rfl) (by rfl) hr1 ?_
          refine hK.out _ _ ⟨trivial, HX0.out hX⟩ (fun hHeld => ?_)
          clear hK K hr1
          simp only [Act.put, List.setIfInBounds_toArray, List.set_cons_zero, List.set_cons_succ, List.getElem_toArray, List.getElem_cons_zero, List.getElem_cons_succ]
          have g3 : Y8.cell? ⟨V0.heap.size, 0, none⟩ = some (.int .i64 (-1)) := (World.cell?_of_block (a := ⟨V0.heap.size, 0, none⟩) (hk8 V0.heap.size (by omega) (by omega))).trans g1'
          obtain ⟨va2, vc2, Y9, hr2, s3, s4, sf, hN⟩ := HN0.out.second (by omega) hX g3
          have HNN := hideIt hN
          have s4' : (Y9.setCell ⟨B, 3, none⟩ (.slice va1 (m + 1) vc1)).cell? ⟨B, 4, none⟩ = some ve := (World.cell?_setCell_other _ _ _ _ (offNe (by omega))).trans s4
          have sf' : (Y9.setCell ⟨B, 3, none⟩ (.slice va1 (m + 1) vc1)).frozen? ⟨B, 4, none⟩ = false := by rw [World.frozen?_setCell]; exact sf 4
          have sf3 := sf 3
          refine wpAnyL_ready (rs := [13]) (by kernel_rfl) (by simp) (AllReadyL.cons rfl (fun K hK => ?_) AllReadyL.nil)
          refine step_append_run (by rfl) _ _ 52 (by rfl) _ _ _ Y9 (by rfl) (by rfl) hr2 ?_
          refine hK.out _ _ ⟨trivial, s3, s4⟩ (fun hHeld => ?_)
          clear hK K hN hr2 hX sf
          simp only [Act.put, List.setIfInBounds_toArray, List.set_cons_zero, List.set_cons_succ, List.getElem_toArray, List.getElem_cons_zero, List.getElem_cons_succ]
          refine wpAnyL_takeS (i := 14) (v := ?_) rfl (by kernel_rfl) (by kernel_rfl) (by kernel_rfl) (by kernel_rfl) (fun _ _ _ h => h) (Or.inl ⟨by rfl, ?_⟩) (by assumption) ?_
          rotate_left 1
          · intro wz _
            go_simp
            all_goals with_reducible rfl
          simp only [Act.put, List.setIfInBounds_toArray, List.set_cons_zero, List.set_cons_succ, List.getElem_toArray, List.getElem_cons_zero, List.getElem_cons_succ]
          refine wpAnyL_takeS (i := 15) (v := ?_) rfl (by kernel_rfl) (by kernel_rfl) (by kernel_rfl) (by kernel_rfl) (fun _ _ _ h => h) (Or.inl ⟨by rfl, ?_⟩) (by assumption) ?_
          rotate_left 1
          · intro wz _
            go_simp
            all_goals with_reducible rfl
          simp only [Act.put, List.setIfInBounds_toArray, List.set_cons_zero, List.set_cons_succ, List.getElem_toArray, List.getElem_cons_zero, List.getElem_cons_succ]
          refine wpAnyL_ready (rs := [16]) (by kernel_rfl) (by simp) (AllReadyL.last rfl (by kernel_rfl) (fun K hK => ?_) AllReadyL.nil)
          go_simp
          refine hK.out _ _ trivial (fun hHeld => ?_)
          clear hK K
          refine wpAnyL_takeE (i := 17) (v := ?_) rfl (by kernel_rfl) (by kernel_rfl) (by kernel_rfl) (by kernel_rfl) (by kernel_rfl) (fun _ _ _ h => h) (Or.inl ⟨by rfl, ?_⟩) (by assumption) ?_
          rotate_left 1
          · intro wz _
            go_simp
            all_goals with_reducible rfl
          simp only [Act.put, List.setIfInBounds_toArray, List.set_cons_zero, List.set_cons_succ, List.getElem_toArray, List.getElem_cons_zero, List.getElem_cons_succ]
          refine wpAnyL_takeE (i := 18) (v := ?_) rfl (by kernel_rfl) (by kernel_rfl) (by kernel_rfl) (by kernel_rfl) (by kernel_rfl) (fun _ _ _ h => h) (Or.inl ⟨by rfl, ?_⟩) (by assumption) ?_
          rotate_left 1
          · intro wz _
            go_simp
            all_goals with_reducible rfl
          simp only [Act.put, List.setIfInBounds_toArray, List.set_cons_zero, List.set_cons_succ, List.getElem_toArray, List.getElem_cons_zero, List.getElem_cons_succ]
          refine wpAnyL_ready (rs := [19]) (by kernel_rfl) (by simp) (AllReadyL.last rfl (by kernel_rfl) (fun K hK => ?_) AllReadyL.nil)
          go_simp
          refine hK.out _ _ trivial (fun hHeld => ?_)
          clear hK K
          refine wpAnyL_done (by kernel_rfl) ?_ _
          go_wp2
          go_roundw
          case rel => exact ⟨m + 1, by omega, by go_num, _, _, HNN.out⟩
          case measure => simp [intOf]; omega
      · have hmn' : ¬ (m : Int) < (n : Int) := by omega
        have hme : m = n := by omega
        subst hme
        have HD := hideIt hN.doc
        clear hN
        go_wp2
        go_ret
        exact ⟨_, rfl, HD.out⟩
end Go.Proofs.YtaopigjhdkdklaaDoor
