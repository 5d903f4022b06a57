/-
  slices.Clone at a row, and the links' own copy, walked.
  The program's net, walked: Cut, Double.
-/
import Derived.Test.YtggdjongbmdefaaDoorDrW
import Derived.Test.YtggdjongbmdefaaDoorNlP
import Derived.ArgAppend
import Derived.Test.YtggdjongbmdefaaDoorNtP
import Derived.Test.YtggdjongbmdefaaDoorNsP
namespace Go.Proofs.YtggdjongbmdefaaDoor
open Go.RowKit

theorem nilEqB (w : World) : (binOp .eql 32 (.slice none 0 0) (.slice none 0 0)).run Tryd.prog w = .ok (.bool true) w := by kernel_rfl
theorem nilNeB (w : World) (a : Addr) (n c : Nat) : (binOp .eql 32 (.slice (some a) n c) (.slice none 0 0)).run Tryd.prog w = .ok (.bool false) w := by kernel_rfl
def bitC (l : List Bool) : List Value := l.map fun x => .bool x
theorem infoB : (Tryd.prog.info? 4).map (fun i => (i.zero, i.size, i.bytes)) = some (some (.bool false), 1, 1) := by kernel_rfl

set_option maxRecDepth 100000 in
set_option maxHeartbeats 1000000 in
theorem cloneB_any (xs : List Bool) (hx : xs.length ≤ 100) (g off cap : Nat) (w : World) (hc : ∀ j (h : j < xs.length), w.cell? ⟨g, off + j, none⟩ = some (.bool xs[j])) :
    Calls Tryd.prog 44 #[.slice (some ⟨g, off, none⟩) xs.length cap] w fun e w' => ∃ v, e = .returned v ∧ w'.ownsRow w.heap.size 4 1 v xs.length (bitC xs) ∧ Below w.heap.size w w' := by
  have hn := nilNeB w ⟨g, off, none⟩ xs.length cap
  obtain ⟨i, hi, hz, hsz, hby⟩ := info_parts' infoB
  have HB0 : Hid (Below w.heap.size w (w.alloc (.cells #[] 4))) := belA (Below.refl _ _) _
  have hown : (w.alloc (.cells #[] 4)).ownsRow w.heap.size 4 1 (.slice (some ⟨w.heap.size, 0, none⟩) 0 0) 0 [] := ⟨rfl, .inr ⟨w.heap.size, 0, #[], rfl, Nat.le_refl _, heap_alloc_new w _, Nat.le_refl _, by unfold maxLen; omega, rfl, rfl⟩⟩
  obtain ⟨v', w', hr, ho, hg, _, hob⟩ := run_append_own_at (P := Tryd.prog) (w := w.alloc (.cells #[] 4)) w.heap.size 32 32 4 i _ 1 1 Tryd.underlying32 hi hz hsz hby rfl (by decide) (.slice (some ⟨w.heap.size, 0, none⟩) 0 0) 0 [] hown ⟨g, off, none⟩ xs.length cap (bitC xs) (by simp [bitC]) (fun j u hj => by
      rw [Addr.add_lit]
      have hj' : j < xs.length := by have := (List.getElem?_eq_some_iff.1 hj).1; simpa [bitC] using this
      refine (HB0.out.cell (p := ⟨g, off + j, none⟩) (World.block_lt_of_cell? w _ (hc j hj'))).trans ?_
      rw [hc j hj', ← hj]
      simp [bitC, hj']) (by intro u hu; obtain ⟨x, _, rfl⟩ := List.mem_map.1 hu; rfl) (by unfold maxLen; omega) (by omega) (by simp)
  have HO : Hid (w'.ownsRow w.heap.size 4 1 v' xs.length (bitC xs)) := by
    show w'.ownsRow _ _ _ _ _ _
    rw [Nat.zero_add] at ho
    exact ho
  have HB : Hid (Below w.heap.size w w') := HB0.out.grown hg (by simp) fun b hb => by simp [Value.ownBlock] at hb; omega
  have hzero : (IntKind.i64.wrap 0) = 0 := rfl
  clear hc ho hg hob hown HB0
  go_enter Tryd.func44, Tryd.ntmps44
  go_wp2_with (at_builtin; refine wpList_append_run _ rfl _ _ 32 rfl _ _ _ w' rfl rfl hr ?_)
  go_ret
  exact ⟨_, rfl, HO.out, HB.out⟩

/-- What is copied so far. -/
structure CopAt (w W : World) (B n m : Nat) (r : Nat → Nat → Bool) : Prop where
  bel : Below w.heap.size w W
  blk : ∃ cur, W.heap[B]? = some (.cells cur 32 (0, 0)) ∧ cur.size = n
  lo : w.heap.size ≤ B
  rows : ∀ i, i < m → ∃ rg rc, W.cell? ⟨B, i, none⟩ = some (.slice (some ⟨rg, 0, none⟩) n rc) ∧ w.heap.size ≤ rg ∧ rg ≠ B ∧ tagD W.heap[rg]? = 5 ∧ ∀ j, j < n → W.cell? ⟨rg, j, none⟩ = some (.bool (r i j))
section
variable {w W W' : World} {B n m : Nat} {r : Nat → Nat → Bool}
theorem CopAt.lt (h : CopAt w W B n m r) : B < W.heap.size := by
  obtain ⟨_, e, _⟩ := h.blk
  exact lt_of_heap e
theorem CopAt.below (h : CopAt w W B n m r) (hb : Below W.heap.size W W') : CopAt w W' B n m r := by
  refine ⟨belJ h.bel hb, ?_, h.lo, fun i hi => ?_⟩
  · obtain ⟨cur, e, hs⟩ := h.blk
    exact ⟨cur, (hb.block B h.lt).trans e, hs⟩
  · obtain ⟨rg, rc, h1, h2, h3, h4, h5⟩ := h.rows i hi
    have hl : rg < W.heap.size := by
      rcases Nat.lt_or_ge rg W.heap.size with h' | h'
      · exact h'
      · rw [Array.getElem?_eq_none h'] at h4; cases h4
    exact ⟨rg, rc, (hb.cell (p := ⟨B, i, none⟩) h.lt).trans h1, h2, h3, by rw [hb.block rg hl]; exact h4, fun j hj => (hb.cell (p := ⟨rg, j, none⟩) hl).trans (h5 j hj)⟩
theorem CopAt.put (h : CopAt w W B n m r) (hm : m < n) {rg rc : Nat} (h2 : w.heap.size ≤ rg) (h3 : rg ≠ B) (h4 : tagD W.heap[rg]? = 5) (h5 : ∀ j, j < n → W.cell? ⟨rg, j, none⟩ = some (.bool (r m j))) : CopAt w (W.setCell ⟨B, m, none⟩ (.slice (some ⟨rg, 0, none⟩) n rc)) B n (m + 1) r := by
  obtain ⟨cur, e, hs⟩ := h.blk
  obtain ⟨cur', e', hs'⟩ := heap_setCell e m (.slice (some ⟨rg, 0, none⟩) n rc)
  have hother : ∀ g, g ≠ B → (W.setCell ⟨B, m, none⟩ (.slice (some ⟨rg, 0, none⟩) n rc)).heap[g]? = W.heap[g]? := fun g hg => Below.heap_setCell W ⟨B, m, none⟩ _ g hg
  refine ⟨h.bel.setCell (p := ⟨B, m, none⟩) h.lo _, ⟨cur', e', by omega⟩, h.lo, fun i hi => ?_⟩
  by_cases ei : i = m
  · subst ei
    exact ⟨rg, rc, World.cell?_setCell_same' _ _ _ (by rw [cell_of_row _ _ _ _ 32 _ e, Array.getElem?_eq_getElem (by omega)]; rfl), h2, h3, by rw [hother rg h3]; exact h4, fun j hj => (World.cell?_of_block (a := ⟨rg, j, none⟩) (hother rg h3)).trans (h5 j hj)⟩
  · obtain ⟨g1, c1, q1, q2, q3, q4, q5⟩ := h.rows i (by omega)
    exact ⟨g1, c1, (World.cell?_setCell_other _ _ _ _ (offNe (Ne.symm ei))).trans q1, q2, q3, by rw [hother g1 q3]; exact q4, fun j hj => (World.cell?_of_block (a := ⟨g1, j, none⟩) (hother g1 q3)).trans (q5 j hj)⟩
theorem CopAt.links (h : CopAt w W B n n r) : LnkS W (fun b => w.heap.size ≤ b ∧ LTg W b) (.slice (some ⟨B, 0, none⟩) n n) (tabL n r) := by
  obtain ⟨cur, e, _⟩ := h.blk
  refine ⟨_, n, by rw [tabL_len], .inr ⟨B, 0, rfl, ⟨h.lo, .inl (by rw [e]; rfl)⟩, fun i hi => ?_⟩⟩
  have hi' : i < n := by rwa [tabL_len] at hi
  obtain ⟨rg, rc, h1, h2, h3, h4, h5⟩ := h.rows i hi'
  refine ⟨_, rc, by rw [Nat.zero_add, tabL_row_len]; exact h1, .inr ⟨rg, 0, rfl, ⟨h2, .inr h4⟩, fun j hj => ?_⟩⟩
  rw [tabL_at, Nat.zero_add]
  exact h5 j (by rwa [tabL_row_len] at hj)
end

set_option maxRecDepth 100000 in
set_option maxHeartbeats 4000000 in
theorem copied_any (n : Nat) (hn : 1 ≤ n ∧ n ≤ 20) (r : Nat → Nat → Bool) (X : Nat → Prop) (lv : Value) (w : World) (h : LnkS w X lv (tabL n r)) :
    Calls Tryd.prog 34 #[lv] w fun e w' => ∃ lv', e = .returned lv' ∧ LnkS w' (fun b => w.heap.size ≤ b ∧ LTg w' b) lv' (tabL n r) ∧ (∃ a n c, lv' = .slice (some a) n c) ∧ Below w.heap.size w w' := by
  obtain ⟨g, off, cap, e0, _⟩ := h.tab (show 0 < n by omega)
  have HRow : Hid (∀ Z, Below w.heap.size w Z → ∀ i, i < n → ∃ rg ro rc, Z.cell? ⟨g, off + i, none⟩ = some (.slice (some ⟨rg, ro, none⟩) n rc) ∧ ∀ j, j < n → Z.cell? ⟨rg, ro + j, none⟩ = some (.bool (r i j))) := fun Z hZ i hi => by
    obtain ⟨g', off', cap', e', rg, ro, rc, h1, h2⟩ := (h.below hZ (Nat.le_refl _)).tab hi
    rw [e0] at e'
    cases e'
    exact ⟨rg, ro, rc, h1, h2⟩
  subst e0
  have hnil := nilNeL w ⟨g, off, none⟩ n cap
  have hmk := made_rows w n (by omega)
  have HC0 : Hid (CopAt w (w.alloc (.cells (madeCells #[.slice none 0 0] n) 32)) w.heap.size n 0 r) :=
    ⟨belA (Below.refl _ _) _, ⟨_, heap_alloc_new w _, by simp [madeCells]⟩, Nat.le_refl _, fun i hi => absurd hi (by omega)⟩
  clear h
  go_enter Tryd.func34, Tryd.ntmps34
  go_wp2
  clear hmk hnil
  generalize w.alloc _ = W1 at HC0 ⊢
  go_loopw [13] (fun v wr => ∃ m : Nat, m ≤ n ∧ v = .int .i64 m ∧ CopAt w wr w.heap.size n m r) (fun v _ => n - (intOf v).toNat)
  case atStart => exact ⟨0, Nat.zero_le _, rfl, HC0.out⟩
  case round =>
    clear HC0
    obtain ⟨m, hm, rfl, hC⟩ := hrel
    have HC := hideIt hC
    clear hC
    by_cases hmn : m < n
    · have hmn' : (m : Int) < n := by omega
      obtain ⟨rg, ro, rc, h1, h2⟩ := HRow.out wr HC.out.bel m hmn
      have hl : ((List.range n).map fun j => r m j).length = n := by simp
      have HCl := hideIt (cloneB_any ((List.range n).map fun j => r m j) (by rw [hl]; omega) rg ro rc wr (fun j hj => by rw [h2 j (by rwa [hl] at hj)]; simp))
      rw [hl] at HCl
      clear h2
      go_wp2_with fail
      refine HCl.out.mono ?_
      clear HCl
      rintro e W2 ⟨v, rfl, ho, hb⟩
      have HC2 := hideIt (HC.out.below hb)
      obtain ⟨sg, sc, rfl, hsg, htag, hcel⟩ : ∃ sg sc, v = .slice (some ⟨sg, 0, none⟩) n sc ∧ wr.heap.size ≤ sg ∧ tagD W2.heap[sg]? = 5 ∧ ∀ j, j < n → W2.cell? ⟨sg, j, none⟩ = some (.bool (r m j)) := by
        rcases own_cells ho with ⟨_, e⟩ | ⟨sg, sc, e, _, _, hk⟩
        · omega
        · refine ⟨sg, sc, e, (ownsRow_block ho sg (by rw [e]; rfl)).1, own_tagD ho (by rw [e]; rfl), fun j hj => ?_⟩
          rw [hk j (by omega)]
          simp [bitC, hj]
      have hBl := HC.out.lt
      have HP : Hid (CopAt w (W2.setCell ⟨w.heap.size, m, none⟩ (.slice (some ⟨sg, 0, none⟩) n sc)) w.heap.size n (m + 1) r) := HC2.out.put hmn (by have := HC.out.bel.size; omega) (by omega) htag hcel
      obtain ⟨cur, hcb, hcs⟩ := HC2.out.blk
      have f1 : W2.frozen? ⟨w.heap.size, m, none⟩ = false := frozen_of_row _ _ _ _ 32 hcb
      have c1 : W2.cell? ⟨w.heap.size, m, none⟩ = some cur[m] := by rw [cell_of_row _ _ _ _ 32 _ hcb, Array.getElem?_eq_getElem (by omega)]
      generalize cur[m] = old at c1
      clear hcel htag ho hb HC2 HC hcb hcs hl h1
      go_wp2
      go_roundw
      case rel => exact ⟨m + 1, by omega, by go_num, HP.out⟩
      case measure => simp [intOf]; omega
    · obtain rfl : m = n := by omega
      go_wp2
      go_ret
      exact ⟨_, rfl, HC.out.links, ⟨_, _, _, rfl⟩, HC.out.bel⟩
set_option maxRecDepth 100000 in
theorem copied_nil (w : World) : Calls Tryd.prog 34 #[.slice none 0 0] w fun e w' => e = .returned (.slice none 0 0) ∧ w' = w := by
  have hnil := nilEqL w
  go_enter Tryd.func34, Tryd.ntmps34
  go_wp2
  go_ret
  exact ⟨rfl, rfl⟩
end Go.Proofs.YtggdjongbmdefaaDoor

namespace Go.Proofs.YtggdjongbmdefaaDoor
open Go.RowKit

/-- What Cut tells: the net has other links. -/
def CutQ (B o : Nat) (lv' : Value) (w w' : World) : Prop := ∃ w1, Below w.heap.size w w1 ∧ w' = w1.setCell ⟨B, o + 1, none⟩ lv'
set_option maxRecDepth 100000 in
set_option maxHeartbeats 1000000 in
theorem pcut_nil (base B o : Nat) (lv v : Value) (L : List Mq) (w : World) (h : NetP w base B o lv v L) (f1 : w.frozen? ⟨B, o + 1, none⟩ = false) :
    Calls Tryd.prog 18 #[.pointer (some ⟨B, o, none⟩), .slice none 0 0] w fun e w' => e = .returned (.tuple #[]) ∧ CutQ B o (.slice none 0 0) w w' := by
  have c1 := h.c1
  have HC := hideIt (copied_nil w)
  clear h
  go_enter Tryd.func18, Tryd.ntmps18
  go_wp2_with fail
  refine HC.out.mono ?_
  rintro e w1 ⟨rfl, rfl⟩
  go_wp2
  go_end0
  exact ⟨rfl, _, Below.refl _ _, rfl⟩
set_option maxRecDepth 100000 in
set_option maxHeartbeats 1000000 in
theorem pcut_any (n : Nat) (hn : 1 ≤ n ∧ n ≤ 20) (r : Nat → Nat → Bool) (X : Nat → Prop) (l : Value) (base B o : Nat) (lv v : Value) (L : List Mq) (w : World) (h : NetP w base B o lv v L) (f1 : w.frozen? ⟨B, o + 1, none⟩ = false) (hl : LnkS w X l (tabL n r)) :
    Calls Tryd.prog 18 #[.pointer (some ⟨B, o, none⟩), l] w fun e w' => e = .returned (.tuple #[]) ∧ ∃ lv' w1, Below w.heap.size w w1 ∧ w' = w1.setCell ⟨B, o + 1, none⟩ lv' ∧ LnkS w1 (fun b => w.heap.size ≤ b ∧ LTg w1 b) lv' (tabL n r) ∧ ∃ a n c, lv' = .slice (some a) n c := by
  have HN := hideIt h
  have HC := hideIt (copied_any n hn r X l w hl)
  have HF := hideIt f1
  have hBl := h.lt
  clear h hl f1
  go_enter Tryd.func18, Tryd.ntmps18
  go_wp2_with fail
  refine HC.out.mono ?_
  rintro e w1 ⟨lv', rfl, h1, ⟨a, n1, c, rfl⟩, hb⟩
  have c1 := (HN.out.below hb).c1
  have f1 : w1.frozen? ⟨B, o + 1, none⟩ = false := (World.frozen?_of_block (a := ⟨B, o + 1, none⟩) (hb.block B hBl)).trans HF.out
  have H1 := hideIt h1
  have HB := hideIt hb
  clear h1 hb HC
  go_wp2
  go_end0
  exact ⟨rfl, _, w1, HB.out, rfl, H1.out, _, _, _, rfl⟩

/-- What Double tells. -/
def DoubQ (base B o : Nat) (v : Value) (L : List Mq) (i : Int) (w : World) (e : Ending) (w' : World) : Prop :=
  ((i < 0 ∨ (L.length : Int) ≤ i) ∧ e = .returned (.iface 29 (.int .i64 8)) ∧ Below w.heap.size w w') ∨
  (∃ (k : Nat) (m : Mq), i = k ∧ L[k]? = some m ∧ SendQ base B o v L m w e w')
set_option maxRecDepth 100000 in
set_option maxHeartbeats 4000000 in
theorem pdouble_any (i : Int) (base B o : Nat) (lv v : Value) (L : List Mq) (w : World) (h : NetP w base B o lv v L) :
    Calls Tryd.prog 16 #[.pointer (some ⟨B, o, none⟩), .int .i64 i] w fun e w' => DoubQ base B o v L i w e w' := by
  have HN := hideIt h
  have HA := hideIt (pat_any i base B o lv v L w h)
  clear h
  go_enter Tryd.func16, Tryd.ntmps16
  go_wp2_with fail
  refine HA.out.mono ?_
  clear HA
  rintro e W1 ⟨(⟨hi, rfl⟩ | ⟨k, m, rfl, hm, rfl⟩), hb⟩
  · have HI := hideIt hi
    have HB := hideIt hb
    unfold mqV mq0
    clear hi hb
    go_wp2
    go_ret
    exact .inl ⟨HI.out, rfl, belA HB.out _⟩
  · have HM := hideIt hm
    have HB1 := hideIt (belA hb (.cells #[.int .i64 m.fr, .int .i64 m.tt, .int .i64 m.wh] 47))
    have HS := hideIt (psend_any m base B o lv v L _ (HN.out.below HB1.out))
    clear hm hb
    unfold mqV
    go_wp2_with fail
    refine HS.out.mono ?_
    clear HS
    rintro e W2 (⟨h1, rfl, hb2⟩ | ⟨h1, rfl, v', ht⟩)
    · have HB2 := hideIt (belJ HB1.out hb2)
      clear hb2
      go_wp2
      go_ret
      exact .inr ⟨k, m, rfl, HM.out, .inl ⟨h1, rfl, HB2.out⟩⟩
    · have HT := hideIt (ht.pre HN.out HB1.out)
      clear ht
      go_wp2
      go_ret
      exact .inr ⟨k, m, rfl, HM.out, .inr ⟨h1, rfl, v', HT.out⟩⟩
end Go.Proofs.YtggdjongbmdefaaDoor
