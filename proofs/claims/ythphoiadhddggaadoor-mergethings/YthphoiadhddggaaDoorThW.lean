/-
  Chapter 15.2, walked: copied, next, Has.
-/
import Derived.Test.YthphoiadhddggaaDoorThM
namespace Go.Proofs.YthphoiadhddggaaDoor
open Go.RowKit

/-- m is the greatest number that f knows of a place (0: none). -/
structure MaxT (f : Th) (p m : Int) : Prop where
  lo : 0 ≤ m
  le : ∀ k x, f p k = some x → k ≤ m
  at_ : m = 0 ∨ ∃ x, f p m = some x
theorem MaxT.one {f : Th} {p m m' : Int} (h : MaxT f p m) (h' : MaxT f p m') : m = m' := by
  have h1 : m ≤ m' := by
    rcases h.at_ with e | ⟨x, hx⟩
    · have := h'.lo; omega
    · exact h'.le m x hx
  have h2 : m' ≤ m := by
    rcases h'.at_ with e | ⟨x, hx⟩
    · have := h.lo; omega
    · exact h.le m' x hx
  omega
/-- A thing is in it. -/
def HasT (f : Th) (x : Int) : Prop := ∃ a b, f a b = some ⟨x, false⟩

theorem blkA {w : World} {o : Obj} {b : Nat} {x : Obj} (h : w.heap[b]? = some x) : (w.alloc o).heap[b]? = some x := by
  rw [Below.heap_alloc w o b (Array.getElem?_eq_some_iff.1 h).1]; exact h
theorem blkB {w w' : World} {b B : Nat} {x : Obj} (h : w.heap[b]? = some x) (hb : Below B w w') (hB : b < B) : w'.heap[b]? = some x := (hb.block b hB).trans h
theorem blk2 {w : World} {b : Nat} {v u : Value} {t : TypeId} (h : w.heap[b]? = some (.cells #[v, u] t)) : w.cell? ⟨b, 0, none⟩ = some v ∧ w.cell? ⟨b, 1, none⟩ = some u ∧ w.frozen? ⟨b, 0, none⟩ = false ∧ w.frozen? ⟨b, 1, none⟩ = false :=
  ⟨by rw [cell_of_row _ _ _ _ t _ h]; rfl, by rw [cell_of_row _ _ _ _ t _ h]; rfl, frozen_of_row _ _ _ _ t h, frozen_of_row _ _ _ _ t h⟩
theorem blk1 {w : World} {b : Nat} {v : Value} {t : TypeId} (h : w.heap[b]? = some (.cells #[v] t)) : w.cell? ⟨b, 0, none⟩ = some v ∧ w.frozen? ⟨b, 0, none⟩ = false :=
  ⟨by rw [cell_of_row _ _ _ _ t _ h]; rfl, frozen_of_row _ _ _ _ t h⟩
theorem results_one {fn : Func} {p : Tmp} {ty : TypeId} (h : fn.results = #[.cell p ty]) (tmps : Array Value) (w : World) (g : Nat) (v : Value)
    (hp : tmps.getD p undef = .pointer (some ⟨g, 0, none⟩)) (hl : (loadVar ty ⟨g, 0, none⟩).run Tryd.prog w = .ok v w) : (results fn tmps).run Tryd.prog w = .ok v w := by
  have hp' : tmps[p]?.getD undef = .pointer (some ⟨g, 0, none⟩) := by simpa using hp
  simp [results, h, hp', asAddr, hl]
theorem results_two {fn : Func} {p u : Tmp} {ty : TypeId} (h : fn.results = #[.cell p ty, .tmp u]) (tmps : Array Value) (w : World) (g : Nat) (v : Value)
    (hp : tmps.getD p undef = .pointer (some ⟨g, 0, none⟩)) (hl : (loadVar ty ⟨g, 0, none⟩).run Tryd.prog w = .ok v w) : (results fn tmps).run Tryd.prog w = .ok (.tuple #[v, tmps.getD u undef]) w := by
  rw [results_cell_tmp h]
  simp only [hp, asAddr, Sem.run_pure, Result.andThen_ok, hl]
theorem size39 : (Tryd.prog.info? 38).map (·.size) = some 1 := by kernel_rfl
theorem size64 : (Tryd.prog.info? 63).map (·.size) = some 2 := by kernel_rfl
theorem loadT {w : World} {g : Nat} {v : Value} (h : w.cell? ⟨g, 0, none⟩ = some v) : (loadVar 38 ⟨g, 0, none⟩).run Tryd.prog w = .ok (.agg #[v]) w :=
  run_loadVar_mid w g 0 38 [v] _ (fun j x hx => by
    cases j with
    | zero => simp at hx; subst hx; exact h
    | succ j => simp at hx) Tryd.underlying38 rfl size39
theorem loadTag {w : World} {g : Nat} {v u : Value} (h : w.cell? ⟨g, 0, none⟩ = some v) (h' : w.cell? ⟨g, 1, none⟩ = some u) : (loadVar 63 ⟨g, 0, none⟩).run Tryd.prog w = .ok (.agg #[v, u]) w :=
  run_loadVar_mid w g 0 63 [v, u] _ (fun j x hx => by
    match j with
    | 0 => simp at hx; subst hx; exact h
    | 1 => simp at hx; subst hx; exact h'
    | j + 2 => simp at hx) Tryd.underlying63 rfl size64
theorem run_makeT (w : World) (n : Int) : (Instr.makeMap 36 (some (.int .i64 n))).run Tryd.prog w = .ok (.map (some w.heap.size)) (w.alloc (.map #[] 0)) := by
  simp [Instr.makeMap, run_underlying Tryd.underlying36, asInt, asIntOf, Result.andThen]

set_option maxRecDepth 100000 in
set_option maxHeartbeats 4000000 in
theorem copied_any (f : Th) (hF : Few 10000 f) (p : Option Nat) (w : World) (hs : ThO w p f) :
    Calls Tryd.prog 21 #[.agg #[.map p]] w fun e w' => ThTold f w e w' := by
  have HS := hideIt hs
  have HM := hideIt hs.lt
  obtain ⟨ks, _, _, hlen⟩ := (hs.bel (belA (belA (Below.refl _ w) (.cells #[.map p] 38)) (.cells #[.map none] 38))).keys pairK Tryd.underlying36 3
  have hmk := run_makeT ((w.alloc (.cells #[.map p] 38)).alloc (.cells #[.map none] 38)) (ks.length : Int)
  clear hs
  go_enter Tryd.func21, Tryd.ntmps21
  go_wp2_with fail
  have HB1 := hideIt (belA (belA (belA (Below.refl _ w) (.cells #[.map p] 38)) (.cells #[.map none] 38)) (.map #[] 0))
  refine (copy_any f hF p (w.heap.size + 1 + 1) _ (HS.out.bel HB1.out) (by simpa using mapK_made ((w.alloc (.cells #[.map p] 38)).alloc (.cells #[.map none] 38)) Tryd.prog 63 mkM) (fun M h => by have := HM.out M h; omega)).mono fun e w1 ⟨he, hm, hg⟩ => ?_
  subst he
  have HK := hideIt hm
  have HB2 : Hid (Below w.heap.size w w1) := HB1.out.grown hg (by simp only [World.size_alloc]; omega) (fun k hk => by cases hk; omega)
  obtain ⟨c1, f1⟩ := blk1 ((hg.block (w.heap.size + 1) (by simp only [World.size_alloc]; omega) (by simp)).trans (blkA (by simpa using heap_alloc_new (w.alloc (.cells #[.map p] 38)) (.cells #[.map none] 38))))
  obtain ⟨c0, f0⟩ := blk1 ((hg.block w.heap.size (by simp only [World.size_alloc]; omega) (fun e => by have := Option.some.inj e; omega)).trans (blkA (blkA (heap_alloc_new w (.cells #[.map p] 38)))))
  clear hm hg hlen hmk
  go_wp2
  refine bodyPost_ret (results_one rfl _ _ _ _ rfl (loadT (World.cell?_setCell_same _ _ _ c1))) rfl ?_
  exact ⟨_, rfl, HK.out.block (Below.heap_setCell _ _ _ _ (by simp)), by omega, HB2.out.setCell (by simp) _⟩

/-- What next tells. -/
def NextTold (f : Th) (p : Int) (w : World) (e : Ending) (w' : World) : Prop := ∃ m, MaxT f p m ∧ e = .returned (.agg #[.int .i64 p, .int .i64 (m + 1)]) ∧ Below w.heap.size w w'

set_option maxRecDepth 100000 in
set_option maxHeartbeats 4000000 in
theorem next_any (f : Th) (q : Option Nat) (p : Int) (hb : ∀ k x, f p k = some x → k ≤ 1000000) (w : World) (hs : ThO w q f) :
    Calls Tryd.prog 22 #[.agg #[.map q], .int .i64 p] w fun e w' => NextTold f p w e w' := by
  have HS := hideIt hs
  have HBd := hideIt hb
  clear hs hb
  go_enter Tryd.func22, Tryd.ntmps22
  go_wp2_with (at_range; refine wpList_range_k _ pairK rfl _ _ rfl _ Tryd.underlying36 q f rfl (HS.out.bel (belA (belA (Below.refl _ w) _) _)) ?_; intro w1 hr1 hg1 hs1)
  have HR1 := hideIt hr1
  have HB1 : Hid (Below w.heap.size w w1) := (belA (belA (Below.refl _ w) (.cells #[.map q] 38)) (.cells #[.int .i64 0, .int .i64 0] 63)).grown hg1 (by simp only [World.size_alloc]; omega) (fun k hk => by cases hk)
  have HC1 : Hid (w1.heap[w.heap.size + 1]? = some (.cells #[.int .i64 0, .int .i64 0] 63)) := (hg1.block (w.heap.size + 1) (by simp only [World.size_alloc]; omega) (by simp)).trans (by simpa using heap_alloc_new (w.alloc (.cells #[.map q] 38)) (.cells #[.int .i64 0, .int .i64 0] 63))
  have hz1 : w1.heap.size = w.heap.size + 3 := by simpa using hs1
  have HZ := hideIt hz1
  clear hr1 hg1 hs1 hz1
  simp only [World.size_alloc] at HR1 ⊢
  go_frame
  go_loopw [5] (fun v wr => ∃ (left : Int → Int → Bool) (m : Int), v = .int .i64 m ∧ RangeO Tryd.prog 63 mkM wr q (w.heap.size + 1 + 1) f left ∧ 0 ≤ m ∧ (∀ k x, f p k = some x → left p k = false → k ≤ m) ∧ (m = 0 ∨ ∃ x, f p m = some x) ∧ wr.heap[w.heap.size + 1]? = some (.cells #[.int .i64 0, .int .i64 0] 63) ∧ Below w.heap.size w wr) (fun _ wr => leftO wr q (w.heap.size + 1 + 1))
  case atStart => exact ⟨_, 0, rfl, HR1.out, Int.le_refl _, fun k x h h' => (by rw [h] at h'; cases h'), .inl rfl, HC1.out, HB1.out⟩
  case round =>
    clear HR1 HB1 HC1 HZ
    obtain ⟨left, m, rfl, hrg, hm0, hle, hat, hc, hbe⟩ := hrel
    have HM0 := hideIt hm0
    have HLe := hideIt hle
    have HAt := hideIt hat
    have HC := hideIt hc
    have HBe := hideIt hbe
    clear hm0 hle hat hc hbe
    go_wp2_with (at_next; refine wpList_next_k _ pairK rfl _ rfl q (w.heap.size + 1 + 1) f left rfl hrg ?_ ?_)
    · intro hleft
      have R : Hid (MaxT f p m) := ⟨HM0.out, fun k x h => HLe.out k x h (hleft p k), HAt.out⟩
      have hw1 : IntKind.i64.wrap (m + 1) = m + 1 := by
        have h1 := HM0.out
        have h2 : m ≤ 1000000 := by
          rcases HAt.out with e | ⟨x, hx⟩
          · omega
          · exact HBd.out m x hx
        exact IntWalk.i64_in _ (by omega)
      obtain ⟨c1, c2, f1, f2⟩ := blk2 HC.out
      clear hleft hrg
      go_wp2
      refine bodyPost_ret (results_one rfl _ _ _ _ rfl (loadTag (v := .int .i64 p) (u := .int .i64 (m + 1)) ?_ (World.cell?_setCell_same _ _ _ (u := .int .i64 0) ?_))) rfl ⟨m, R.out, rfl, (HBe.out.setCell (by simp) _).setCell (by simp) _⟩
      · rw [World.cell?_setCell_other _ _ _ _ (offN (by omega))]
        exact World.cell?_setCell_same _ _ _ c1
      · rw [World.cell?_setCell_other _ _ _ _ (offN (by omega))]
        exact c2
    · intro x y v w3 hwf hfx hlx hrg3 hlt3 hg3 hs3 hen
      obtain ⟨v1, v2⟩ := v
      unfold pairV at hen
      have hsz := HBe.out.size
      have HB3 : Hid (Below w.heap.size w w3) := HBe.out.grown hg3 hsz (fun k hk => by cases hk; omega)
      have HC3 : Hid (w3.heap[w.heap.size + 1]? = some (.cells #[.int .i64 0, .int .i64 0] 63)) := (hg3.block (w.heap.size + 1) (Array.getElem?_eq_some_iff.1 HC.out).1 (fun e => by have := Option.some.inj e; omega)).trans HC.out
      have HA : Hid (w3.grownBy (w3.alloc (.cells #[.int .i64 x, .int .i64 y] 63)) none) := World.grownBy_alloc w3 _ none
      have HFx := hideIt hfx
      clear hg3 hs3 hrg hfx hsz HC
      have hr4 := hrg3.kept HA.out (fun _ _ => by simp) (by simp)
      have HR4 := hideIt hr4.1
      have HL4 : Hid (leftO (w3.alloc (.cells #[.int .i64 x, .int .i64 y] 63)) q (w.heap.size + 1 + 1) < leftO wr q (w.heap.size + 1 + 1)) := by
        show _ < _
        rw [hr4.2]; exact hlt3
      have HC4 := hideIt (blkA (o := .cells #[.int .i64 x, .int .i64 y] 63) HC3.out)
      have HB4 := hideIt (HB3.out.alloc HB3.out.size (.cells #[.int .i64 x, .int .i64 y] 63))
      clear hrg3 hlt3 hr4 HC3 HB3 HA
      by_cases hp : x = p
      · subst hp
        by_cases hy : m < y
        · have hy' : (y > m) := hy
          go_wp2
          go_roundw
          case rel =>
            refine ⟨_, y, rfl, HR4.out, by have := HM0.out; omega, fun k z hk hl => ?_, .inr ⟨_, HFx.out⟩, HC4.out, HB4.out⟩
            cases hl' : left x k with
            | false => have := HLe.out k z hk hl'; omega
            | true => simp [hl'] at hl; omega
          case measure => exact HL4.out
        · have hy' : ¬ (y > m) := hy
          go_wp2
          go_roundw
          case rel =>
            refine ⟨_, m, rfl, HR4.out, HM0.out, fun k z hk hl => ?_, HAt.out, HC4.out, HB4.out⟩
            cases hl' : left x k with
            | false => have := HLe.out k z hk hl'; omega
            | true => simp [hl'] at hl; omega
          case measure => exact HL4.out
      · have hp' : (x == p) = false := by simp [hp]
        go_wp2
        go_roundw
        case rel =>
          refine ⟨_, m, rfl, HR4.out, HM0.out, fun k z hk hl => HLe.out k z hk ?_, HAt.out, HC4.out, HB4.out⟩
          cases hl' : left p k with
          | false => rfl
          | true => simp [hl'] at hl; exact absurd hl.1.symm hp
        case measure => exact HL4.out

/-- What Has tells. -/
def HasTold (f : Th) (x : Int) (w : World) (e : Ending) (w' : World) : Prop := ∃ b : Bool, e = .returned (.bool b) ∧ (b = true ↔ HasT f x) ∧ Below w.heap.size w w'

set_option maxRecDepth 100000 in
set_option maxHeartbeats 4000000 in
theorem has_any (f : Th) (q : Option Nat) (t : Int) (w : World) (hs : ThO w q f) :
    Calls Tryd.prog 16 #[.agg #[.map q], .int .i64 t] w fun e w' => HasTold f t w e w' := by
  have HS := hideIt hs
  clear hs
  go_enter Tryd.func16, Tryd.ntmps16
  go_wp2_with (at_range; refine wpList_range_k _ pairK rfl _ _ rfl _ Tryd.underlying36 q f rfl (HS.out.bel (belA (Below.refl _ w) _)) ?_; intro w1 hr1 hg1 hs1)
  have HR1 := hideIt hr1
  have HB1 : Hid (Below w.heap.size w w1) := (belA (Below.refl _ w) (.cells #[.map q] 38)).grown hg1 (by simp only [World.size_alloc]; omega) (fun k hk => by cases hk)
  clear hr1 hg1 hs1
  simp only [World.size_alloc] at HR1 ⊢
  go_frame
  go_loopw [] (fun wr => ∃ (left : Int → Int → Bool), RangeO Tryd.prog 63 mkM wr q (w.heap.size + 1) f left ∧ (∀ a b, f a b = some ⟨t, false⟩ → left a b = true) ∧ Below w.heap.size w wr) (fun wr => leftO wr q (w.heap.size + 1))
  case atStart => exact ⟨_, HR1.out, fun a b h => (by rw [h]; rfl), HB1.out⟩
  case round =>
    clear HR1 HB1
    obtain ⟨left, hrg, hle, hbe⟩ := hrel
    have HLe := hideIt hle
    have HBe := hideIt hbe
    clear hle hbe
    go_wp2_with (at_next; refine wpList_next_k _ pairK rfl _ rfl q (w.heap.size + 1) f left rfl hrg ?_ ?_)
    · intro hleft
      have R : Hid (¬ HasT f t) := fun ⟨a, b, h⟩ => by have := HLe.out a b h; rw [hleft a b] at this; cases this
      clear hleft hrg
      go_wp2
      go_ret
      exact ⟨false, rfl, ⟨fun h => (by cases h), fun h => absurd h R.out⟩, HBe.out⟩
    · intro x y v w3 hwf hfx hlx hrg3 hlt3 hg3 hs3 hen
      obtain ⟨v1, v2⟩ := v
      unfold pairV at hen
      have hsz := HBe.out.size
      have HB3 : Hid (Below w.heap.size w w3) := HBe.out.grown hg3 hsz (fun k hk => by cases hk; omega)
      have HFx := hideIt hfx
      have hr4 := hrg3.kept (World.grownBy_alloc w3 (.cells #[.int .i64 v1, .bool v2] 61) none) (fun _ _ => by simp) (by simp)
      have HR4 := hideIt hr4.1
      have HL4 : Hid (leftO (w3.alloc (.cells #[.int .i64 v1, .bool v2] 61)) q (w.heap.size + 1) < leftO wr q (w.heap.size + 1)) := by
        show _ < _
        rw [hr4.2]; exact hlt3
      have HB4 := hideIt (HB3.out.alloc HB3.out.size (.cells #[.int .i64 v1, .bool v2] 61))
      clear hg3 hs3 hrg hfx hsz hrg3 hlt3 hr4 HB3
      have HIn : Hid (¬ (v1 = t ∧ v2 = false) → ∀ a b, f a b = some ⟨t, false⟩ → (left a b && (!decide (a = x) || !decide (b = y))) = true) := fun hn a b h => by
        rw [HLe.out a b h, Bool.true_and]
        by_cases ha : a = x <;> by_cases hb : b = y
        · subst ha hb
          rw [HFx.out] at h
          injection h with h
          injection h with h1 h2
          exact absurd ⟨h1, h2⟩ hn
        all_goals simp [ha, hb]
      by_cases hp : v1 = t
      · subst hp
        cases v2 with
        | false =>
          go_wp2
          go_ret
          exact ⟨true, rfl, ⟨fun _ => ⟨_, _, HFx.out⟩, fun _ => rfl⟩, HB4.out⟩
        | true =>
          go_wp2
          go_roundw
          case rel => exact ⟨_, HR4.out, HIn.out (by simp), HB4.out⟩
          case measure => exact HL4.out
      · have hp' : (v1 == t) = false := by simp [hp]
        go_wp2
        go_roundw
        case rel => exact ⟨_, HR4.out, HIn.out (by simp [hp]), HB4.out⟩
        case measure => exact HL4.out
end Go.Proofs.YthphoiadhddggaaDoor
