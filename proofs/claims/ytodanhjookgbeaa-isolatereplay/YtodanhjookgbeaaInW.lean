/-
  The program's checkList, walked.
-/
import Derived.Test.YtodanhjookgbeaaImW
import Derived.Laws.EntriesVeiled
import Derived.Deep.CutBlock
import Derived.Deep.DeepCutAuto
namespace Go.Proofs.Ytodanhjookgbeaa
open Go.RowKit

/-- How many of the first transactions commit and write a key. -/
def makN (s : ISt) (key : Int) (n : Nat) : Nat := ((List.range n).filter fun (i : Nat) => makB s key i).length
theorem makN_succ (s : ISt) (key : Int) (n : Nat) : makN s key (n + 1) = makN s key n + if makB s key n = true then 1 else 0 := by
  unfold makN
  rw [List.range_succ, List.filter_append, List.length_append]
  congr 1
  by_cases h : makB s key (n : Int) = true
  · simp [h]
  · simp [h]
theorem makN_all (s : ISt) (key : Int) : makN s key s.txs.length = cntK s key := (cntK_eq s key).symm
theorem makN_le (s : ISt) (key : Int) (n : Nat) : makN s key n ≤ n := by
  unfold makN
  exact Nat.le_trans (List.length_filter_le _ _) (by simp)
theorem lstK_at {s : ISt} {key : Nat} (h : key < s.ord.length) : lstK s (key : Int) = s.ord[key] := by
  unfold lstK
  rw [Int.toNat_natCast, List.getD_eq_getElem?_getD, List.getElem?_eq_getElem h]
  rfl
theorem fltK_at {s : ISt} {key k : Nat} (hk : k < (lstK s (key : Int)).length) (hn : ∀ j, j < k → fltE s key (lstK s key) j = 0) (h : fltE s key (lstK s key) k ≠ 0) : fltK s key = fltE s key (lstK s key) k := by
  unfold fltK
  have := fstF_first (l := (List.range (lstK s key).length).map (fltE s key (lstK s key)) ++ [if cntK s key = (lstK s key).length then 0 else 3]) (k := k) (by simp; omega)
    (fun j h1 h2 => by rw [List.getElem_append_left (by simp; omega)]; simpa using hn j h2) (by rw [List.getElem_append_left (by simpa using hk)]; simpa using h)
  rw [this, List.getElem_append_left (by simpa using hk)]
  simp
theorem fltK_end {s : ISt} {key : Nat} (hn : ∀ j, j < (lstK s (key : Int)).length → fltE s key (lstK s key) j = 0) : fltK s key = if cntK s key = (lstK s key).length then 0 else 3 := by
  unfold fltK
  rw [fstF_app, if_pos (fstF_none fun j hj => by simpa using hn j (by simpa using hj))]
  by_cases h : cntK s key = (lstK s key).length
  · simp [fstF, h]
  · simp [fstF, h]

theorem box1 (w : World) (x : Value) (t : TypeId) : (w.alloc (.cells #[x] t)).cell? ⟨w.heap.size, 0, none⟩ = some x := by
  rw [cell_of_row _ _ _ _ t _ (heap_alloc_new w _)]
  rfl

set_option maxRecDepth 100000 in
set_option maxHeartbeats 4000000 in
theorem checkList_any (s : ISt) (a b : Option Addr) (ca cb key : Nat) (w : World) (h : StyQ w a ca b cb s) (h8 : s.txs.length ≤ 8) (hk8 : key < 8) (hko : key < s.ord.length) :
    Calls Try.prog 36 #[.agg #[.slice a s.txs.length ca, .slice b s.ord.length cb], verA (verF s), .int .i64 (key : Int)] w fun e w' => e = .returned (toldV (fltK s key)) ∧ Below w.heap.size w w' := by
  obtain ⟨gb, ob, rfl, hgb, la, lc, l1, l2, l3, l4⟩ := h.row hko
  have HS := hideIt h
  have HL := hideIt l4
  have HAt : Hid (∀ k, k < (lstK s (key : Int)).length → (∀ j, j < k → fltE s key (lstK s key) j = 0) → fltE s key (lstK s key) k ≠ 0 → fltK s key = fltE s key (lstK s key) k) := fun k hk => fltK_at hk
  have HEnd : Hid ((∀ j, j < (lstK s (key : Int)).length → fltE s key (lstK s key) j = 0) → fltK s key = if cntK s key = (lstK s key).length then 0 else 3) := fltK_end
  have HLst := hideIt (lstK_at hko)
  generalize s.ord[key] = L at *
  rw [HLst.out] at HAt HEnd
  clear HLst
  have HV : Hid (VerB (((w.alloc (.cells #[.slice a s.txs.length ca, .slice (some ⟨gb, ob, none⟩) s.ord.length cb] 25)).alloc (.cells (verL (verF s)).toArray 54)).alloc (.cells #[.int .i64 (key : Int)] 3)) (w.heap.size + 1) (verF s)) := by
    have := (verB_new (w.alloc (.cells #[.slice a s.txs.length ca, .slice (some ⟨gb, ob, none⟩) s.ord.length cb] 25)) (verF s) 54).alloc (.cells #[.int .i64 (key : Int)] 3)
    rw [World.size_alloc] at this
    exact this
  have HB : Hid (Below w.heap.size w (((w.alloc (.cells #[.slice a s.txs.length ca, .slice (some ⟨gb, ob, none⟩) s.ord.length cb] 25)).alloc (.cells (verL (verF s)).toArray 54)).alloc (.cells #[.int .i64 (key : Int)] 3))) := belA (belA (belA (Below.refl _ _) _) _) _
  have c0 := cellA (o := .cells #[.int .i64 (key : Int)] 3) (cellA (o := .cells (verL (verF s)).toArray 54) (box2 w (.slice a s.txs.length ca) (.slice (some ⟨gb, ob, none⟩) s.ord.length cb) 25).1)
  have c1 := cellA (o := .cells #[.int .i64 (key : Int)] 3) (cellA (o := .cells (verL (verF s)).toArray 54) (box2 w (.slice a s.txs.length ca) (.slice (some ⟨gb, ob, none⟩) s.ord.length cb) 25).2)
  have c2 := box1 ((w.alloc (.cells #[.slice a s.txs.length ca, .slice (some ⟨gb, ob, none⟩) s.ord.length cb] 25)).alloc (.cells (verL (verF s)).toArray 54)) (.int .i64 (key : Int)) 3
  simp only [World.size_alloc] at c2
  unfold maxLen at l3
  clear h l4
  have hko' : (key : Int) < s.ord.length := by omega
  unfold verA
  go_enter Try.func36, Try.ntmps36
  go_wp2
  generalize hW : ((w.alloc _).alloc _).alloc _ = W at HV HB c0 c1 c2 ⊢
  clear hW
  have l1 := (HB.out.cell (p := ⟨gb, ob + key, none⟩) hgb).trans l1
  have HSz : Hid (w.heap.size + 1 + 1 < W.heap.size) := World.block_lt_of_cell? W _ c2
  go_upto_region 1 with fail
  go_cut [7, 8] from 14 to 20 (fun x y wx => ∃ Bc Bs, x = .pointer (some ⟨Bc, 0, none⟩) ∧ y = .slice la L.length lc ∧ wx.cell? ⟨Bc, 0, none⟩ = some (.func (.func 27) #[] #[.pointer (some ⟨Bs, 0, none⟩)]) ∧ wx.cell? ⟨Bs, 0, none⟩ = some (.slice a s.txs.length ca) ∧ Below W.heap.size W wx)
  case first =>
    have HX : Hid (∀ Z, Below W.heap.size W Z → Z.cell? ⟨w.heap.size, 0, none⟩ = some (.slice a s.txs.length ca) ∧ Z.cell? ⟨w.heap.size, 1, none⟩ = some (.slice (some ⟨gb, ob, none⟩) s.ord.length cb) ∧ Z.cell? ⟨w.heap.size + 1 + 1, 0, none⟩ = some (.int .i64 (key : Int)) ∧ Z.cell? ⟨gb, ob + key, none⟩ = some (.slice la L.length lc)) := fun Z hZ => by
      have s2 := HSz.out
      exact ⟨(hZ.cell (p := ⟨w.heap.size, 0, none⟩) (by show w.heap.size < W.heap.size; omega)).trans c0, (hZ.cell (p := ⟨w.heap.size, 1, none⟩) (by show w.heap.size < W.heap.size; omega)).trans c1, (hZ.cell (p := ⟨w.heap.size + 1 + 1, 0, none⟩) s2).trans c2, (hZ.cell (p := ⟨gb, ob + key, none⟩) (by show gb < W.heap.size; omega)).trans l1⟩
    clear c0 c1 c2 l1
    refine wp_region_held_drew (S := (fun w' => Below W.heap.size W w')) (by kernel_rfl) (Below.refl _ _).drew (fun hHeld => ?_)
    refine wpAnyH_take (i := 0) (v := ?_) rfl (by kernel_rfl) (by kernel_rfl) (by kernel_rfl) (fun _ _ _ h => h) (Or.inl ⟨by rfl, ?_⟩) (by assumption) ?_
    rotate_left 1
    · intro wz sb
      obtain ⟨y0, y1, y2, y3⟩ := HX.out wz sb
      go_simp
      all_goals with_reducible rfl
    simp only [Act.put, List.setIfInBounds_toArray, List.set_cons_zero, List.set_cons_succ, List.getElem_toArray, List.getElem_cons_zero]
    refine wpAnyH_take (i := 2) (v := ?_) rfl (by kernel_rfl) (by kernel_rfl) (by kernel_rfl) (fun _ _ _ h => h) (Or.inl ⟨by rfl, ?_⟩) (by assumption) ?_
    rotate_left 1
    · intro wz sb
      obtain ⟨y0, y1, y2, y3⟩ := HX.out wz sb
      go_simp
      all_goals with_reducible rfl
    simp only [Act.put, List.setIfInBounds_toArray, List.set_cons_zero, List.set_cons_succ, List.getElem_toArray, List.getElem_cons_zero, List.getElem_cons_succ]
    refine wpAnyH_take (i := 3) (v := ?_) rfl (by kernel_rfl) (by kernel_rfl) (by kernel_rfl) (fun _ _ _ h => h) (Or.inl ⟨by rfl, ?_⟩) (by assumption) ?_
    rotate_left 1
    · intro wz sb
      obtain ⟨y0, y1, y2, y3⟩ := HX.out wz sb
      go_simp
      all_goals with_reducible rfl
    simp only [Act.put, List.setIfInBounds_toArray, List.set_cons_zero, List.set_cons_succ, List.getElem_toArray, List.getElem_cons_zero, List.getElem_cons_succ]
    refine wpAnyH_take (i := 4) (v := ?_) rfl (by kernel_rfl) (by kernel_rfl) (by kernel_rfl) (fun _ _ _ h => h) (Or.inl ⟨by rfl, ?_⟩) (by assumption) ?_
    rotate_left 1
    · intro wz sb
      obtain ⟨y0, y1, y2, y3⟩ := HX.out wz sb
      go_simp
      all_goals with_reducible rfl
    simp only [Act.put, List.setIfInBounds_toArray, List.set_cons_zero, List.set_cons_succ, List.getElem_toArray, List.getElem_cons_zero, List.getElem_cons_succ]
    refine wpAnyH_take (i := 5) (v := ?_) rfl (by kernel_rfl) (by kernel_rfl) (by kernel_rfl) (fun _ _ _ h => h) (Or.inl ⟨by rfl, ?_⟩) (by assumption) ?_
    rotate_left 1
    · intro wz sb
      obtain ⟨y0, y1, y2, y3⟩ := HX.out wz sb
      go_simp
      all_goals with_reducible rfl
    simp only [Act.put, List.setIfInBounds_toArray, List.set_cons_zero, List.set_cons_succ, List.getElem_toArray, List.getElem_cons_zero, List.getElem_cons_succ]
    refine wpAnyH_take (i := 6) (v := ?_) rfl (by kernel_rfl) (by kernel_rfl) (by kernel_rfl) (fun _ _ _ h => h) (Or.inl ⟨by rfl, ?_⟩) (by assumption) ?_
    rotate_left 1
    · intro wz sb
      obtain ⟨y0, y1, y2, y3⟩ := HX.out wz sb
      go_simp
      all_goals with_reducible rfl
    simp only [Act.put, List.setIfInBounds_toArray, List.set_cons_zero, List.set_cons_succ, List.getElem_toArray, List.getElem_cons_zero, List.getElem_cons_succ]
    refine wpAnyH_ready (rs := [1, 7]) (by kernel_rfl) (by simp) (AllReadyH.cons rfl (fun K hK => ?_) (AllReadyH.cons rfl (fun K hK => ?_) AllReadyH.nil))
    · go_simp
      refine (committing_any _ a (some ⟨gb, ob, none⟩) s.txs.length ca s.ord.length cb _ rfl).mono ?_
      rintro e w6 ⟨rfl, rfl⟩
      refine hK.out _ _ ?_ (fun hHeld => ?_)
      · exact hHeld.alloc hHeld.size _
      clear hK K
      refine wpAnyH_ready (rs := [7]) (by kernel_rfl) (by simp) (AllReadyH.cons rfl (fun K hK => ?_) AllReadyH.nil)
      go_simp
      refine hK.out _ _ ?_ (fun hHeld => ?_)
      · exact hHeld.alloc hHeld.size _
      clear hK K
      have HF1 : Hid ((((W.alloc (.cells #[.slice a s.txs.length ca, .slice (some ⟨gb, ob, none⟩) s.ord.length cb] 25)).alloc (.cells #[.func (.func 27) #[] #[.pointer (some ⟨W.heap.size, 0, none⟩)]] 50)).drew).cell? ⟨W.heap.size + 1, 0, none⟩ = some (.func (.func 27) #[] #[.pointer (some ⟨W.heap.size, 0, none⟩)])) := by have := box1 (W.alloc (.cells #[.slice a s.txs.length ca, .slice (some ⟨gb, ob, none⟩) s.ord.length cb] 25)) (.func (.func 27) #[] #[.pointer (some ⟨W.heap.size, 0, none⟩)]) 50; rw [World.size_alloc] at this; exact this
      have HF2 : Hid ((((W.alloc (.cells #[.slice a s.txs.length ca, .slice (some ⟨gb, ob, none⟩) s.ord.length cb] 25)).alloc (.cells #[.func (.func 27) #[] #[.pointer (some ⟨W.heap.size, 0, none⟩)]] 50)).drew).cell? ⟨W.heap.size, 0, none⟩ = some (.slice a s.txs.length ca)) := cellA (box2 W _ _ _).1
      have HF3 : Hid (Below W.heap.size W (((W.alloc (.cells #[.slice a s.txs.length ca, .slice (some ⟨gb, ob, none⟩) s.ord.length cb] 25)).alloc (.cells #[.func (.func 27) #[] #[.pointer (some ⟨W.heap.size, 0, none⟩)]] 50)).drew)) := (belA (belA (Below.refl _ _) _) _).drew
      refine wpAnyH_ready (rs := [8]) (by kernel_rfl) (by simp) (AllReadyH.cons rfl (fun K hK => ?_) AllReadyH.nil)
      go_simp
      refine hK.out _ _ ?_ (fun hHeld => ?_)
      · exact HF3.out
      clear hK K
      refine wpAnyH_ready (rs := [9]) (by kernel_rfl) (by simp) (AllReadyH.cons rfl (fun K hK => ?_) AllReadyH.nil)
      go_simp
      refine hK.out _ _ ?_ (fun hHeld => ?_)
      · exact HF3.out
      clear hK K
      refine wpAnyH_done (by kernel_rfl) ?_ _
      go_wp2
      go_meet
      exact ⟨W.heap.size + 1, W.heap.size, rfl, rfl, HF1.out, HF2.out, HF3.out⟩
    · go_simp
      refine hK.out _ _ ?_ (fun hHeld => ?_)
      · exact hHeld.alloc hHeld.size _
      clear hK K
      refine wpAnyH_ready (rs := [1]) (by kernel_rfl) (by simp) (AllReadyH.cons rfl (fun K hK => ?_) AllReadyH.nil)
      go_simp
      refine (committing_any _ a (some ⟨gb, ob, none⟩) s.txs.length ca s.ord.length cb _ rfl).mono ?_
      rintro e w6 ⟨rfl, rfl⟩
      refine hK.out _ _ ?_ (fun hHeld => ?_)
      · exact hHeld.alloc hHeld.size _
      clear hK K
      have HF1 : Hid ((((W.alloc (.cells #[.func (.func 27) #[] #[.pointer (some ⟨W.heap.size + 1, 0, none⟩)]] 50)).alloc (.cells #[.slice a s.txs.length ca, .slice (some ⟨gb, ob, none⟩) s.ord.length cb] 25)).drew).cell? ⟨W.heap.size, 0, none⟩ = some (.func (.func 27) #[] #[.pointer (some ⟨W.heap.size + 1, 0, none⟩)])) := cellA (box1 W _ 50)
      have HF2 : Hid ((((W.alloc (.cells #[.func (.func 27) #[] #[.pointer (some ⟨W.heap.size + 1, 0, none⟩)]] 50)).alloc (.cells #[.slice a s.txs.length ca, .slice (some ⟨gb, ob, none⟩) s.ord.length cb] 25)).drew).cell? ⟨W.heap.size + 1, 0, none⟩ = some (.slice a s.txs.length ca)) := by have := (box2 (W.alloc (.cells #[.func (.func 27) #[] #[.pointer (some ⟨W.heap.size + 1, 0, none⟩)]] 50)) (.slice a s.txs.length ca) (.slice (some ⟨gb, ob, none⟩) s.ord.length cb) 25).1; rw [World.size_alloc] at this; exact this
      have HF3 : Hid (Below W.heap.size W (((W.alloc (.cells #[.func (.func 27) #[] #[.pointer (some ⟨W.heap.size + 1, 0, none⟩)]] 50)).alloc (.cells #[.slice a s.txs.length ca, .slice (some ⟨gb, ob, none⟩) s.ord.length cb] 25)).drew)) := (belA (belA (Below.refl _ _) _) _).drew
      refine wpAnyH_ready (rs := [8]) (by kernel_rfl) (by simp) (AllReadyH.cons rfl (fun K hK => ?_) AllReadyH.nil)
      go_simp
      refine hK.out _ _ ?_ (fun hHeld => ?_)
      · exact HF3.out
      clear hK K
      refine wpAnyH_ready (rs := [9]) (by kernel_rfl) (by simp) (AllReadyH.cons rfl (fun K hK => ?_) AllReadyH.nil)
      go_simp
      refine hK.out _ _ ?_ (fun hHeld => ?_)
      · exact HF3.out
      clear hK K
      refine wpAnyH_done (by kernel_rfl) ?_ _
      go_wp2
      go_meet
      exact ⟨W.heap.size, W.heap.size + 1, rfl, rfl, HF1.out, HF2.out, HF3.out⟩
  case rest =>
    rename World => wx
    obtain ⟨Bc, Bs, rfl, rfl, hf, hs, hbx⟩ := hcut
    have HMk : Hid (∀ Z, Below wx.heap.size wx Z → ∀ i, i < s.txs.length → Calls Try.prog 41 #[.int .i64 (i : Int), .pointer (some ⟨Bc, 0, none⟩), .pointer (some ⟨w.heap.size + 1, 0, none⟩), .pointer (some ⟨w.heap.size + 1 + 1, 0, none⟩)] Z fun e w' => e = .returned (.bool (makB s key i)) ∧ Below Z.heap.size Z w') := fun Z hZ i hi => by
      have hWZ : Below W.heap.size W Z := belJ hbx hZ
      have s2 := HSz.out
      exact makes_any s a (some ⟨gb, ob, none⟩) ca cb Bs Bc (w.heap.size + 1) (w.heap.size + 1 + 1) i key Z ((HS.out.below HB.out).below hWZ) h8 hk8 hi ((hZ.cell (p := ⟨Bs, 0, none⟩) (World.block_lt_of_cell? wx _ hs)).trans hs) ((hZ.cell (p := ⟨Bc, 0, none⟩) (World.block_lt_of_cell? wx _ hf)).trans hf) (HV.out.below hWZ (by omega)) ((hWZ.cell (p := ⟨w.heap.size + 1 + 1, 0, none⟩) s2).trans c2)
    have HLx := hideIt ((HL.out.below HB.out).below hbx)
    have HBx := hideIt (belJ HB.out hbx)
    have c0x := (hbx.cell (p := ⟨w.heap.size, 0, none⟩) (by show w.heap.size < W.heap.size; have := HSz.out; omega)).trans c0
    have HSx : Hid (w.heap.size < wx.heap.size) := World.block_lt_of_cell? wx _ c0x
    clear hf hs hbx HV HB HL HS c0 c1 c2 l1
    go_wp2
    go_loopw [24] (fun i wr => ∃ k : Nat, k ≤ L.length ∧ i = .int .i64 k ∧ (∀ j, j < k → fltE s key L j = 0) ∧ Below wx.heap.size wx wr) (fun i _ => L.length - (intOf i).toNat)
    case atStart => exact ⟨0, by omega, rfl, fun j hj => absurd hj (by omega), Below.refl _ _⟩
    case round =>
      obtain ⟨k, hk, rfl, hz, hb⟩ := hrel
      have HZ := hideIt hz
      have HBw := hideIt hb
      clear hz hb
      have c0w := (HBw.out.cell (p := ⟨w.heap.size, 0, none⟩) HSx.out).trans c0x
      by_cases hkn : k < L.length
      · have hkn' : (k : Int) < L.length := by omega
        have HF : Hid (fltE s key L k ≠ 0 → fltK s key = fltE s key L k) := HAt.out k hkn HZ.out
        have HZk : Hid (fltE s key L k = 0 → ∀ j, j < k + 1 → fltE s key L j = 0) := fun h0 j hjk => by
          by_cases e : j = k
          · subst e; exact h0
          · exact HZ.out j (by omega)
        have HR : Hid (fltE s key L k = if L[k] < 0 ∨ (s.txs.length : Int) ≤ L[k] then 2 else if comI s L[k] = false ∨ wroI s L[k] key = 0 then 8 else if L[k] ∈ L.take k then 9 else 0) := by
          have e : L.getD k 0 = L[k] := by rw [List.getD_eq_getElem?_getD, List.getElem?_eq_getElem hkn]; rfl
          show fltE s key L k = _
          unfold fltE
          rw [e]
        have HBN : Hid (∀ Z, Below wr.heap.size wr Z → Below w.heap.size w Z) := fun Z hZ => belJ (belJ HBx.out HBw.out) hZ
        have HCt : Hid (∀ Z, Below wx.heap.size wx Z → Calls Try.prog 42 #[.slice la k lc, .int .i64 L[k]] Z fun e w' => e = .returned (.bool (decide (L[k] ∈ L.take k))) ∧ w' = Z) := fun Z hZ => by
          have hlen : (L.take k).length = k := by rw [List.length_take]; omega
          have hq : IntsQ Z la (L.take k) := by
            rcases HLx.out.below hZ with h | ⟨g, o, rfl, hg, h⟩
            · subst h; simp at hkn
            · exact .inr ⟨g, o, rfl, hg, fun j hj => by rw [List.getElem_take]; exact h j (by rw [hlen] at hj; omega)⟩
          have := contains_any (L.take k) (by rw [hlen]; unfold maxLen; omega) L[k] la lc Z hq
          rw [hlen] at this
          exact this
        obtain ⟨g, o, rfl, hg, e0⟩ := (HLx.out.below HBw.out).at hkn
        generalize L[k] = x at *
        generalize fltE s key L k = f at *
        clear HAt HEnd HZ HLx
        by_cases hx0 : x < 0
        · have HE : Hid (f = 2) := by rw [HR.out, if_pos (.inl hx0)]; rfl
          clear HR HMk HCt
          go_wp2
          go_ret
          exact ⟨by rw [HF.out (by rw [HE.out]; decide), HE.out]; rfl, HBN.out _ (Below.refl _ _)⟩
        · have d0 : decide (x < 0) = false := decide_eq_false hx0
          by_cases hx1 : (s.txs.length : Int) ≤ x
          · have HE : Hid (f = 2) := by rw [HR.out, if_pos (.inr hx1)]; rfl
            have d1 : decide ((s.txs.length : Int) ≤ x) = true := decide_eq_true hx1
            clear HR HMk HCt
            go_wp2
            go_ret
            exact ⟨by rw [HF.out (by rw [HE.out]; decide), HE.out]; rfl, HBN.out _ (Below.refl _ _)⟩
          · have d1 : decide ((s.txs.length : Int) ≤ x) = false := decide_eq_false hx1
            obtain ⟨t, rfl⟩ := Int.eq_ofNat_of_zero_le (show 0 ≤ x by omega)
            have HMt := hideIt (HMk.out wr HBw.out t (by omega))
            have HR2 : Hid (f = if makB s key t = false then 8 else if (t : Int) ∈ L.take k then 9 else 0) := by
              rw [HR.out, if_neg (by omega)]
              by_cases h1 : comI s t = false ∨ wroI s t key = 0
              · have h2 : makB s key t = false := by
                  unfold makB
                  rcases h1 with h1 | h1
                  · rw [h1]; rfl
                  · rw [h1]; simp
                rw [if_pos h1, if_pos h2]; rfl
              · have h2 : makB s key t = true := by
                  unfold makB
                  simp at h1 ⊢
                  exact ⟨h1.1, by omega⟩
                rw [if_neg h1, if_neg (show ¬ makB s key t = false by rw [h2]; simp)]; rfl
            clear HR HMk
            go_wp2_with fail
            refine HMt.out.mono ?_
            rintro e w1 ⟨rfl, hb1⟩
            have HB1 := hideIt (belJ HBw.out hb1)
            have HBN1 := hideIt (HBN.out w1 hb1)
            clear hb1 HMt
            cases hmk : makB s key t
            · have HE : Hid (f = 8) := by rw [HR2.out, if_pos hmk]; rfl
              clear HR2 HCt
              go_wp2
              go_ret
              exact ⟨by rw [HF.out (by rw [HE.out]; decide), HE.out]; rfl, HBN1.out⟩
            · have HR3 : Hid (f = if (t : Int) ∈ L.take k then 9 else 0) := by rw [HR2.out, if_neg (by rw [hmk]; simp)]; rfl
              have HC1 := hideIt (HCt.out w1 HB1.out)
              clear HR2 HCt
              have hkc : (k : Int) ≤ lc := by omega
              go_wp2_with fail
              refine HC1.out.mono ?_
              rintro e w2 ⟨rfl, rfl⟩
              clear HC1
              by_cases hm9 : (t : Int) ∈ L.take k
              · have HE : Hid (f = 9) := by rw [HR3.out, if_pos hm9]; rfl
                rw [decide_eq_true hm9]
                clear HR3 hm9
                go_wp2
                go_ret
                exact ⟨by rw [HF.out (by rw [HE.out]; decide), HE.out]; rfl, HBN1.out⟩
              · have HE : Hid (f = 0) := by rw [HR3.out, if_neg hm9]; rfl
                rw [decide_eq_false hm9]
                clear HR3 hm9
                go_wp2
                go_roundw
                case rel => exact ⟨k + 1, by omega, by go_num, HZk.out HE.out, HB1.out⟩
                case measure => simp [intOf]; omega
      · have HE := hideIt (HEnd.out fun j hj => HZ.out j (by omega))
        have HBN := hideIt (belJ HBx.out HBw.out)
        clear HAt HEnd HZ HLx
        go_wp2
        go_loopw [12, 57] (fun c i wz => ∃ k : Nat, k ≤ s.txs.length ∧ i = .int .i64 k ∧ c = .int .i64 (makN s key k : Nat) ∧ Below wr.heap.size wr wz) (fun _ i _ => s.txs.length - (intOf i).toNat)
        case atStart => exact ⟨0, by omega, rfl, rfl, Below.refl _ _⟩
        case round =>
          obtain ⟨n, hn, rfl, rfl, hb⟩ := hrel
          have HBz := hideIt hb
          clear hb
          have hle := makN_le s key n
          by_cases hnl : n < s.txs.length
          · have hnl' : (n : Int) < s.txs.length := by omega
            have HMt := hideIt (HMk.out _ (belJ HBw.out HBz.out) n hnl)
            have HSu := hideIt (makN_succ s key n)
            go_wp2_with fail
            refine HMt.out.mono ?_
            rintro e w1 ⟨rfl, hb1⟩
            have HB1 := hideIt (belJ HBz.out hb1)
            clear hb1 HMt
            cases hmk : makB s key n
            · rw [hmk] at HSu
              go_wp2
              go_roundw
              case rel => exact ⟨n + 1, by omega, by go_num, by rw [HSu.out]; rfl, HB1.out⟩
              case measure => simp [intOf]; omega
            · rw [hmk] at HSu
              go_wp2
              go_roundw
              case rel => exact ⟨n + 1, by omega, by go_num, by rw [HSu.out]; rfl, HB1.out⟩
              case measure => simp [intOf]; omega
          · obtain rfl : n = s.txs.length := by omega
            rw [makN_all] at hle ⊢
            have HBE := hideIt (belJ HBN.out HBz.out)
            by_cases hcl : cntK s key = L.length
            · have e1 : ((L.length : Int) != (cntK s key : Int)) = false := by rw [hcl]; simp
              have HE2 : Hid (fltK s key = 0) := by rw [HE.out, if_pos hcl]; rfl
              clear HE
              go_wp2
              go_ret
              exact ⟨by rw [HE2.out]; rfl, HBE.out⟩
            · have e1 : ((L.length : Int) != (cntK s key : Int)) = true := by simp; omega
              have HE2 : Hid (fltK s key = 3) := by rw [HE.out, if_neg hcl]; rfl
              clear HE
              go_wp2
              go_ret
              exact ⟨by rw [HE2.out]; rfl, HBE.out⟩
end Go.Proofs.Ytodanhjookgbeaa
