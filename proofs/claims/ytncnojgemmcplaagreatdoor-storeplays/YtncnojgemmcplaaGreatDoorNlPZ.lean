/-
  The program's net, walked: who can talk (let).
  slices.Clone at a row, and the links' own copy, walked.
-/
import Derived.Test.YtncnojgemmcplaaGreatDoorMpKZ
import Derived.Test.YtncnojgemmcplaaGreatDoorLrWZ
import Derived.ArgAppend
namespace Go.Proofs.YtncnojgemmcplaaGreatDoor.St
open Go.RowKit

/-- nil: all can talk. -/
def letL (nil : Bool) (M : List (List Bool)) (a b : Int) : Bool :=
  if nil = true then true else if 0 ≤ a ∧ 0 ≤ b then ((M[a.toNat]?).bind fun r => r[b.toNat]?).getD false else false
theorem nilEqL (w : World) : (binOp .eql 77 (.slice none 0 0) (.slice none 0 0)).run Tryz.prog w = .ok (.bool true) w := by kernel_rfl
theorem nilNeL (w : World) (a : Addr) (n c : Nat) : (binOp .eql 77 (.slice (some a) n c) (.slice none 0 0)).run Tryz.prog w = .ok (.bool false) w := by kernel_rfl
/-- Links in memory, or nil. -/
def LnkN (w : World) (X : Nat → Prop) (lv : Value) (nil : Bool) (M : List (List Bool)) : Prop := (nil = true ∧ lv = .slice none 0 0) ∨ (nil = false ∧ LnkS w X lv M ∧ ∃ a n c, lv = .slice (some a) n c)
theorem LnkN.keep {w w' : World} {X : Nat → Prop} {lv : Value} {nil : Bool} {M : List (List Bool)} (h : LnkN w X lv nil M) (hk : ∀ b, b < w.heap.size → X b → w'.heap[b]? = w.heap[b]?) : LnkN w' X lv nil M :=
  h.imp id fun ⟨e, h1, h2⟩ => ⟨e, h1.keep hk, h2⟩
theorem LnkN.below {w w' : World} {X : Nat → Prop} {lv : Value} {nil : Bool} {M : List (List Bool)} (h : LnkN w X lv nil M) (hb : Below w.heap.size w w') : LnkN w' X lv nil M :=
  h.keep fun b hl _ => hb.block b hl

set_option maxRecDepth 100000 in
set_option maxHeartbeats 4000000 in
theorem plet_any (x y : Int) (X : Nat → Prop) (lv : Value) (nil : Bool) (M : List (List Bool)) (w : World) (h : LnkN w X lv nil M) :
    Calls Tryz.prog 87 #[lv, .int .i64 x, .int .i64 y] w fun e w' => e = .returned (.bool (letL nil M x y)) ∧ w' = w := by
  rcases h with ⟨rfl, rfl⟩ | ⟨rfl, hl, la, ln, lc, rfl⟩
  · have hn := nilEqL w
    go_enter Tryz.func87, Tryz.ntmps87
    go_wp2
    go_ret
    exact ⟨ret_bool rfl, rfl⟩
  have hn := nilNeL w la ln lc
  obtain ⟨a0, cap0, e0, hr⟩ := hl
  cases e0
  by_cases hx : 0 ≤ x
  · have hx' : decide (x ≥ 0) = true := decide_eq_true hx
    by_cases hxl : x < M.length
    · have hxl' : decide (x < (M.length : Int)) = true := decide_eq_true hxl
      by_cases hy : 0 ≤ y
      · have hy' : decide (y ≥ 0) = true := decide_eq_true hy
        obtain ⟨g, off, e1, _, hr2⟩ := hr.resolve_left (fun e => by rw [e] at hxl; simp at hxl; omega)
        obtain rfl := Option.some.inj e1
        obtain ⟨i, rfl⟩ : ∃ i : Nat, x = i := ⟨x.toNat, by omega⟩
        have hil : i < M.length := by omega
        obtain ⟨ra, rc, h1, h2⟩ := hr2 i hil
        have ho : letL false M i y = ((M[i])[y.toNat]?).getD false := by
          unfold letL
          rw [if_neg (by decide), if_pos ⟨hx, hy⟩, Int.toNat_natCast, List.getElem?_eq_getElem hil]; rfl
        rw [ho]
        generalize M[i] = row at h1 h2
        clear hr hr2 ho e1
        by_cases hyl : y < row.length
        · have hyl' : decide (y < (row.length : Int)) = true := decide_eq_true hyl
          obtain ⟨rg, ro, rfl, _, h4⟩ := h2.resolve_left (fun e => by rw [e] at hyl; simp at hyl; omega)
          obtain ⟨j, rfl⟩ : ∃ j : Nat, y = j := ⟨y.toNat, by omega⟩
          have hjl : j < row.length := by omega
          have h3 := h4 j hjl
          rw [Int.toNat_natCast, List.getElem?_eq_getElem hjl]
          generalize row[j] = bit at h3
          clear h2 h4
          go_enter Tryz.func87, Tryz.ntmps87
          go_wp2
          go_ret
          exact ⟨ret_bool rfl, rfl⟩
        · have hyl' : decide (y < (row.length : Int)) = false := decide_eq_false hyl
          have e3 : row[y.toNat]? = none := List.getElem?_eq_none (by omega)
          rw [e3]
          clear h2
          go_enter Tryz.func87, Tryz.ntmps87
          go_wp2
          go_ret
          exact ⟨ret_bool rfl, rfl⟩
      · have hy' : decide (y ≥ 0) = false := decide_eq_false hy
        have ho : letL false M x y = false := by
          unfold letL
          rw [if_neg (by decide), if_neg (fun h => hy h.2)]
        rw [ho]
        clear hr
        go_enter Tryz.func87, Tryz.ntmps87
        go_wp2
        go_ret
        exact ⟨ret_bool rfl, rfl⟩
    · have hxl' : decide (x < (M.length : Int)) = false := decide_eq_false hxl
      have ho : letL false M x y = false := by
        unfold letL
        rw [if_neg (by decide)]
        split
        · rw [List.getElem?_eq_none (by omega)]; rfl
        · rfl
      rw [ho]
      clear hr
      go_enter Tryz.func87, Tryz.ntmps87
      go_wp2
      go_ret
      exact ⟨ret_bool rfl, rfl⟩
  · have hx' : decide (x ≥ 0) = false := decide_eq_false hx
    have ho : letL false M x y = false := by
      unfold letL
      rw [if_neg (by decide), if_neg (fun h => hx h.1)]
    rw [ho]
    clear hr
    go_enter Tryz.func87, Tryz.ntmps87
    go_wp2
    go_ret
    exact ⟨ret_bool rfl, rfl⟩
end Go.Proofs.YtncnojgemmcplaaGreatDoor.St

namespace Go.Proofs.YtncnojgemmcplaaGreatDoor.St
open Go.RowKit

theorem nilNeB (w : World) (a : Addr) (n c : Nat) : (binOp .eql 95 (.slice (some a) n c) (.slice none 0 0)).run Tryz.prog w = .ok (.bool false) w := by kernel_rfl
def bitC (l : List Bool) : List Value := l.map fun x => .bool x
theorem infoB : (Tryz.prog.info? 4).map (fun i => (i.zero, i.size, i.bytes)) = some (some (.bool false), 1, 1) := by kernel_rfl

set_option maxRecDepth 100000 in
set_option maxHeartbeats 1000000 in
theorem cloneB_any (xs : List Bool) (hx : xs.length ≤ 100) (g off cap : Nat) (w : World) (hc : ∀ j (h : j < xs.length), w.cell? ⟨g, off + j, none⟩ = some (.bool xs[j])) :
    Calls Tryz.prog 122 #[.slice (some ⟨g, off, none⟩) xs.length cap] w fun e w' => ∃ v, e = .returned v ∧ w'.ownsRow w.heap.size 4 1 v xs.length (bitC xs) ∧ Below w.heap.size w w' := by
  have hn := nilNeB w ⟨g, off, none⟩ xs.length cap
  obtain ⟨i, hi, hz, hsz, hby⟩ := info_parts' infoB
  have HB0 : Hid (Below w.heap.size w (w.alloc (.cells #[] 4))) := belA (Below.refl _ _) _
  have hown : (w.alloc (.cells #[] 4)).ownsRow w.heap.size 4 1 (.slice (some ⟨w.heap.size, 0, none⟩) 0 0) 0 [] := ⟨rfl, .inr ⟨w.heap.size, 0, #[], rfl, Nat.le_refl _, heap_alloc_new w _, Nat.le_refl _, by unfold maxLen; omega, rfl, rfl⟩⟩
  obtain ⟨v', w', hr, ho, hg, _, hob⟩ := run_append_own_at (P := Tryz.prog) (w := w.alloc (.cells #[] 4)) w.heap.size 95 95 4 i _ 1 1 Tryz.underlying95 hi hz hsz hby rfl (by decide) (.slice (some ⟨w.heap.size, 0, none⟩) 0 0) 0 [] hown ⟨g, off, none⟩ xs.length cap (bitC xs) (by simp [bitC]) (fun j u hj => by
      rw [Addr.add_lit]
      have hj' : j < xs.length := by have := (List.getElem?_eq_some_iff.1 hj).1; simpa [bitC] using this
      refine (HB0.out.cell (p := ⟨g, off + j, none⟩) (World.block_lt_of_cell? w _ (hc j hj'))).trans ?_
      rw [hc j hj', ← hj]
      simp [bitC, hj']) (by intro u hu; obtain ⟨x, _, rfl⟩ := List.mem_map.1 hu; rfl) (by unfold maxLen; omega) (by omega) (by simp)
  have HO : Hid (w'.ownsRow w.heap.size 4 1 v' xs.length (bitC xs)) := by
    show w'.ownsRow _ _ _ _ _ _
    rw [Nat.zero_add] at ho
    exact ho
  have HB : Hid (Below w.heap.size w w') := HB0.out.grown hg (by simp) fun b hb => by simp [Value.ownBlock] at hb; omega
  have hzero : (IntKind.i64.wrap 0) = 0 := rfl
  clear hc ho hg hob hown HB0
  go_enter Tryz.func122, Tryz.ntmps122
  go_wp2_with (at_builtin; refine wpList_append_run _ rfl _ _ 95 rfl _ _ _ w' rfl rfl hr ?_)
  go_ret
  exact ⟨_, rfl, HO.out, HB.out⟩

/-- What is copied so far. -/
structure CopAt (w W : World) (B n m : Nat) (r : Nat → Nat → Bool) : Prop where
  bel : Below w.heap.size w W
  blk : ∃ cur, W.heap[B]? = some (.cells cur 95 (0, 0)) ∧ cur.size = n
  lo : w.heap.size ≤ B
  rows : ∀ i, i < m → ∃ rg rc, W.cell? ⟨B, i, none⟩ = some (.slice (some ⟨rg, 0, none⟩) n rc) ∧ w.heap.size ≤ rg ∧ rg ≠ B ∧ tagD W.heap[rg]? = 5 ∧ ∀ j, j < n → W.cell? ⟨rg, j, none⟩ = some (.bool (r i j))
section
variable {w W W' : World} {B n m : Nat} {r : Nat → Nat → Bool}
theorem CopAt.lt (h : CopAt w W B n m r) : B < W.heap.size := by
  obtain ⟨_, e, _⟩ := h.blk
  exact lt_of_heap e
theorem CopAt.below (h : CopAt w W B n m r) (hb : Below W.heap.size W W') : CopAt w W' B n m r := by
  refine ⟨belJ h.bel hb, ?_, h.lo, fun i hi => ?_⟩
  · obtain ⟨cur, e, hs⟩ := h.blk
    exact ⟨cur, (hb.block B h.lt).trans e, hs⟩
  · obtain ⟨rg, rc, h1, h2, h3, h4, h5⟩ := h.rows i hi
    have hl : rg < W.heap.size := by
      rcases Nat.lt_or_ge rg W.heap.size with h' | h'
      · exact h'
      · rw [Array.getElem?_eq_none h'] at h4; cases h4
    exact ⟨rg, rc, (hb.cell (p := ⟨B, i, none⟩) h.lt).trans h1, h2, h3, by rw [hb.block rg hl]; exact h4, fun j hj => (hb.cell (p := ⟨rg, j, none⟩) hl).trans (h5 j hj)⟩
theorem CopAt.put (h : CopAt w W B n m r) (hm : m < n) {rg rc : Nat} (h2 : w.heap.size ≤ rg) (h3 : rg ≠ B) (h4 : tagD W.heap[rg]? = 5) (h5 : ∀ j, j < n → W.cell? ⟨rg, j, none⟩ = some (.bool (r m j))) : CopAt w (W.setCell ⟨B, m, none⟩ (.slice (some ⟨rg, 0, none⟩) n rc)) B n (m + 1) r := by
  obtain ⟨cur, e, hs⟩ := h.blk
  obtain ⟨cur', e', hs'⟩ := heap_setCell e m (.slice (some ⟨rg, 0, none⟩) n rc)
  have hother : ∀ g, g ≠ B → (W.setCell ⟨B, m, none⟩ (.slice (some ⟨rg, 0, none⟩) n rc)).heap[g]? = W.heap[g]? := fun g hg => Below.heap_setCell W ⟨B, m, none⟩ _ g hg
  refine ⟨h.bel.setCell (p := ⟨B, m, none⟩) h.lo _, ⟨cur', e', by omega⟩, h.lo, fun i hi => ?_⟩
  by_cases ei : i = m
  · subst ei
    exact ⟨rg, rc, World.cell?_setCell_same' _ _ _ (by rw [cell_of_row _ _ _ _ 95 _ e, Array.getElem?_eq_getElem (by omega)]; rfl), h2, h3, by rw [hother rg h3]; exact h4, fun j hj => (World.cell?_of_block (a := ⟨rg, j, none⟩) (hother rg h3)).trans (h5 j hj)⟩
  · obtain ⟨g1, c1, q1, q2, q3, q4, q5⟩ := h.rows i (by omega)
    exact ⟨g1, c1, (World.cell?_setCell_other _ _ _ _ (offNe (Ne.symm ei))).trans q1, q2, q3, by rw [hother g1 q3]; exact q4, fun j hj => (World.cell?_of_block (a := ⟨g1, j, none⟩) (hother g1 q3)).trans (q5 j hj)⟩
theorem CopAt.links (h : CopAt w W B n n r) : LnkS W (fun b => w.heap.size ≤ b ∧ LTg W b) (.slice (some ⟨B, 0, none⟩) n n) (tabL n r) := by
  obtain ⟨cur, e, _⟩ := h.blk
  refine ⟨_, n, by rw [tabL_len], .inr ⟨B, 0, rfl, ⟨h.lo, .inl (by rw [e]; rfl)⟩, fun i hi => ?_⟩⟩
  have hi' : i < n := by rwa [tabL_len] at hi
  obtain ⟨rg, rc, h1, h2, h3, h4, h5⟩ := h.rows i hi'
  refine ⟨_, rc, by rw [Nat.zero_add, tabL_row_len]; exact h1, .inr ⟨rg, 0, rfl, ⟨h2, .inr h4⟩, fun j hj => ?_⟩⟩
  rw [tabL_at, Nat.zero_add]
  exact h5 j (by rwa [tabL_row_len] at hj)
end

set_option maxRecDepth 100000 in
set_option maxHeartbeats 4000000 in
theorem copied_any (n : Nat) (hn : 1 ≤ n ∧ n ≤ 20) (r : Nat → Nat → Bool) (X : Nat → Prop) (lv : Value) (w : World) (h : LnkS w X lv (tabL n r)) :
    Calls Tryz.prog 94 #[lv] w fun e w' => ∃ lv', e = .returned lv' ∧ LnkS w' (fun b => w.heap.size ≤ b ∧ LTg w' b) lv' (tabL n r) ∧ (∃ a n c, lv' = .slice (some a) n c) ∧ Below w.heap.size w w' := by
  obtain ⟨g, off, cap, e0, _⟩ := h.tab (show 0 < n by omega)
  have HRow : Hid (∀ Z, Below w.heap.size w Z → ∀ i, i < n → ∃ rg ro rc, Z.cell? ⟨g, off + i, none⟩ = some (.slice (some ⟨rg, ro, none⟩) n rc) ∧ ∀ j, j < n → Z.cell? ⟨rg, ro + j, none⟩ = some (.bool (r i j))) := fun Z hZ i hi => by
    obtain ⟨g', off', cap', e', rg, ro, rc, h1, h2⟩ := (h.below hZ (Nat.le_refl _)).tab hi
    rw [e0] at e'
    cases e'
    exact ⟨rg, ro, rc, h1, h2⟩
  subst e0
  have hnil := nilNeL w ⟨g, off, none⟩ n cap
  have hmk := made_rows w n (by omega)
  have HC0 : Hid (CopAt w (w.alloc (.cells (madeCells #[.slice none 0 0] n) 95)) w.heap.size n 0 r) :=
    ⟨belA (Below.refl _ _) _, ⟨_, heap_alloc_new w _, by simp [madeCells]⟩, Nat.le_refl _, fun i hi => absurd hi (by omega)⟩
  clear h
  go_enter Tryz.func94, Tryz.ntmps94
  go_wp2
  clear hmk hnil
  generalize w.alloc _ = W1 at HC0 ⊢
  go_loopw [13] (fun v wr => ∃ m : Nat, m ≤ n ∧ v = .int .i64 m ∧ CopAt w wr w.heap.size n m r) (fun v _ => n - (intOf v).toNat)
  case atStart => exact ⟨0, Nat.zero_le _, rfl, HC0.out⟩
  case round =>
    clear HC0
    obtain ⟨m, hm, rfl, hC⟩ := hrel
    have HC := hideIt hC
    clear hC
    by_cases hmn : m < n
    · have hmn' : (m : Int) < n := by omega
      obtain ⟨rg, ro, rc, h1, h2⟩ := HRow.out wr HC.out.bel m hmn
      have hl : ((List.range n).map fun j => r m j).length = n := by simp
      have HCl := hideIt (cloneB_any ((List.range n).map fun j => r m j) (by rw [hl]; omega) rg ro rc wr (fun j hj => by rw [h2 j (by rwa [hl] at hj)]; simp))
      rw [hl] at HCl
      clear h2
      go_wp2_with fail
      refine HCl.out.mono ?_
      clear HCl
      rintro e W2 ⟨v, rfl, ho, hb⟩
      have HC2 := hideIt (HC.out.below hb)
      obtain ⟨sg, sc, rfl, hsg, htag, hcel⟩ : ∃ sg sc, v = .slice (some ⟨sg, 0, none⟩) n sc ∧ wr.heap.size ≤ sg ∧ tagD W2.heap[sg]? = 5 ∧ ∀ j, j < n → W2.cell? ⟨sg, j, none⟩ = some (.bool (r m j)) := by
        rcases own_cells ho with ⟨_, e⟩ | ⟨sg, sc, e, _, _, hk⟩
        · omega
        · refine ⟨sg, sc, e, (ownsRow_block ho sg (by rw [e]; rfl)).1, own_tagD ho (by rw [e]; rfl), fun j hj => ?_⟩
          rw [hk j (by omega)]
          simp [bitC, hj]
      have hBl := HC.out.lt
      have HP : Hid (CopAt w (W2.setCell ⟨w.heap.size, m, none⟩ (.slice (some ⟨sg, 0, none⟩) n sc)) w.heap.size n (m + 1) r) := HC2.out.put hmn (by have := HC.out.bel.size; omega) (by omega) htag hcel
      obtain ⟨cur, hcb, hcs⟩ := HC2.out.blk
      have f1 : W2.frozen? ⟨w.heap.size, m, none⟩ = false := frozen_of_row _ _ _ _ 95 hcb
      have c1 : W2.cell? ⟨w.heap.size, m, none⟩ = some cur[m] := by rw [cell_of_row _ _ _ _ 95 _ hcb, Array.getElem?_eq_getElem (by omega)]
      generalize cur[m] = old at c1
      clear hcel htag ho hb HC2 HC hcb hcs hl h1
      go_wp2
      go_roundw
      case rel => exact ⟨m + 1, by omega, by go_num, HP.out⟩
      case measure => simp [intOf]; omega
    · obtain rfl : m = n := by omega
      go_wp2
      go_ret
      exact ⟨_, rfl, HC.out.links, ⟨_, _, _, rfl⟩, HC.out.bel⟩
set_option maxRecDepth 100000 in
theorem copied_nil (w : World) : Calls Tryz.prog 94 #[.slice none 0 0] w fun e w' => e = .returned (.slice none 0 0) ∧ w' = w := by
  have hnil := nilEqL w
  go_enter Tryz.func94, Tryz.ntmps94
  go_wp2
  go_ret
  exact ⟨rfl, rfl⟩
end Go.Proofs.YtncnojgemmcplaaGreatDoor.St
