/-
  Chapter 15.2, walked: maps.Equal, Same, Drop, Join, Put.
-/
import Derived.Test.YthphoiadhddggaaDoorThP
namespace Go.Proofs.YthphoiadhddggaaDoor
open Go.RowKit

theorem cellA {w : World} {o : Obj} {p : Addr} {x : Value} (h : w.cell? p = some x) : (w.alloc o).cell? p = some x := by
  rw [World.cell?_alloc_lt _ _ p (World.block_lt_of_cell? w _ h)]
  exact h

/-- What Same tells: whether both know the same. -/
def SameTold (f g : Th) (w : World) (e : Ending) (w' : World) : Prop := ∃ b : Bool, e = .returned (.bool b) ∧ (b = true ↔ f = g) ∧ Below w.heap.size w w'

set_option maxRecDepth 100000 in
set_option maxHeartbeats 4000000 in
theorem equal_any (f g : Th) (p q : Option Nat) (w : World) (hf : ThO w p f) (hg : ThO w q g) :
    Calls Tryd.prog 23 #[.map p, .map q] w fun e w' => SameTold f g w e w' := by
  have HF := hideIt hf
  have HG := hideIt hg
  obtain ⟨ks, hk1, hk3, hk4⟩ := hf.keys pairK Tryd.underlying36 3
  obtain ⟨js, hj1, hj3, hj4⟩ := hg.keys pairK Tryd.underlying36 3
  have HSame : Hid (f = g → ks.length = js.length) := fun h => Nat.le_antisymm (nodup_le2 hk1 fun x hx => (hj3 x.1 x.2).2 (by rw [← h]; exact (hk3 x.1 x.2).1 hx)) (nodup_le2 hj1 fun x hx => (hk3 x.1 x.2).2 (by rw [h]; exact (hj3 x.1 x.2).1 hx))
  have HSub : Hid (ks.length = js.length → (∀ a b m, f a b = some m → g a b = some m) → f = g) := fun hl hs => funext fun a => funext fun b => by
    cases hq : f a b with
    | some m => exact (hs a b m hq).symm
    | none =>
      cases hgq : g a b with
      | none => rfl
      | some m =>
        have h1 : (a, b) ∉ ks := fun h => by have := (hk3 a b).1 h; rw [hq] at this; cases this
        have h2 := nodup_le2 (l := (a, b) :: ks) (m := js) (List.nodup_cons.2 ⟨h1, hk1⟩) fun x hx => by
          rcases List.mem_cons.1 hx with rfl | hx
          · exact (hj3 a b).2 (by rw [hgq]; rfl)
          · obtain ⟨c, d⟩ := x
            obtain ⟨m', hb'⟩ := Option.isSome_iff_exists.1 ((hk3 c d).1 hx)
            exact (hj3 c d).2 (by rw [hs c d m' hb']; rfl)
        simp only [List.length_cons] at h2
        omega
  generalize ks.length = kn at hk4 HSame HSub
  generalize js.length = jn at hj4 HSame HSub
  clear hk1 hk3 hj1 hj3 hf hg
  by_cases hne : kn = jn
  · have h1 := hideIt (HSub.out hne)
    subst hne
    clear HSub HSame
    go_enter Tryd.func23, Tryd.ntmps23
    go_wp2_with (at_range; refine wpList_range_k _ pairK rfl _ _ rfl _ Tryd.underlying36 p f rfl HF.out ?_; intro w1 hr1 hg1 hs1)
    have HR1 := hideIt hr1
    have HB1 : Hid (Below w.heap.size w w1) := (Below.refl _ _).grown hg1 (Nat.le_refl _) (fun k hk => by cases hk)
    clear hr1 hg1 hs1 hk4 hj4
    go_frame
    go_loopw [] (fun wr => ∃ left : Int → Int → Bool, RangeO Tryd.prog 63 mkM wr p w.heap.size f left ∧ (∀ a b m, f a b = some m → left a b = true ∨ g a b = some m) ∧ Below w.heap.size w wr) (fun wr => leftO wr p w.heap.size)
    case atStart => exact ⟨_, HR1.out, fun a b m h => .inl (by rw [h]; rfl), HB1.out⟩
    case round =>
      clear HR1 HB1
      obtain ⟨left, hrg, hin, hb⟩ := hrel
      have HIn := hideIt hin
      have HB := hideIt hb
      clear hin hb
      go_wp2_with (at_next; refine wpList_next_k _ pairK rfl _ rfl p w.heap.size f left rfl hrg ?_ ?_)
      · intro hleft
        have R : Hid (f = g) := h1.out fun a b m hq => (HIn.out a b m hq).elim (fun h => by rw [hleft a b] at h; cases h) id
        clear hleft hrg
        go_wp2
        go_ret
        exact ⟨true, rfl, ⟨fun _ => R.out, fun _ => rfl⟩, HB.out⟩
      · intro x y v w3 hwf hfx hlx hrg3 hlt3 hg3 hs3 hen
        obtain ⟨v1, v2⟩ := v
        unfold pairV at hen
        have hsz := HB.out.size
        have HB3 : Hid (Below w.heap.size w w3) := HB.out.grown hg3 hsz (fun k hk => by cases hk; exact Nat.le_refl _)
        have HFx := hideIt hfx
        have HG3 := hideIt (HG.out.bel HB3.out)
        have HA : Hid (w3.grownBy ((w3.alloc (.cells #[.int .i64 x, .int .i64 y] 63)).alloc (.cells #[.int .i64 v1, .bool v2] 61)) none) := (World.grownBy_alloc w3 _ none).andThen (World.grownBy_alloc _ _ none) (fun j hj => by cases hj)
        have HG4 := hideIt (HG3.out.kept HA.out (fun _ _ => by simp))
        have HR4 := hideIt (hrg3.kept HA.out (fun _ _ => by simp) (by simp))
        have HB4 := hideIt (belA (belA HB3.out (.cells #[.int .i64 x, .int .i64 y] 63)) (.cells #[.int .i64 v1, .bool v2] 61))
        have HLt := hideIt hlt3
        clear hrg hg3 hs3 hfx hrg3 hlt3 hsz
        cases hgq : g x y with
        | none =>
          have HN : Hid (¬ f = g) := fun h => by have := HFx.out; rw [h, hgq] at this; cases this
          have HGq := hideIt hgq
          clear hgq
          go_wp2_with (at_lookup; refine wpList_lookok_k _ pairK rfl _ _ _ rfl _ Tryd.underlying36 q g rfl HG4.out (zeroM _) x y rfl hwf (.agg #[.int .i64 0, .bool false]) false (by rw [HGq.out]) (by rw [HGq.out]; rfl) ?_)
          go_ret
          exact ⟨false, rfl, ⟨fun h => (by cases h), fun h => absurd h HN.out⟩, belA HB4.out _⟩
        | some c =>
          obtain ⟨c1, c2⟩ := c
          have HGq := hideIt hgq
          clear hgq
          have hr5 := HR4.out.1.kept (World.grownBy_alloc _ (.cells #[.int .i64 c1, .bool c2] 61) none) (fun _ _ => by simp) (by simp)
          have HR5 := hideIt hr5.1
          have HL5 := hideIt (hr5.2.trans HR4.out.2)
          clear hr5
          by_cases hbc : (⟨v1, v2⟩ : Mk) = ⟨c1, c2⟩
          · injection hbc with e1 e2
            subst e1 e2
            have R : Hid (∀ a b m, f a b = some m → (left a b && (!decide (a = x) || !decide (b = y))) = true ∨ g a b = some m) := fun a b m hx => by
              by_cases e : a = x ∧ b = y
              · obtain ⟨rfl, rfl⟩ := e
                rw [HFx.out] at hx
                obtain rfl := Option.some.inj hx
                exact .inr HGq.out
              · rcases HIn.out a b m hx with h | h
                · exact .inl (by rw [h]; by_cases ha : a = x <;> by_cases hb : b = y <;> simp [ha, hb]; exact e ⟨ha, hb⟩)
                · exact .inr h
            go_wp2_with (at_lookup; refine wpList_lookok_k _ pairK rfl _ _ _ rfl _ Tryd.underlying36 q g rfl HG4.out (zeroM _) x y rfl hwf (.agg #[.int .i64 v1, .bool v2]) true (by rw [HGq.out]) (by rw [HGq.out]; rfl) ?_)
            go_roundw
            case rel => exact ⟨_, HR5.out, R.out, belA HB4.out _⟩
            case measure => rw [HL5.out]; exact HLt.out
          · have HN : Hid (¬ f = g) := fun h => by have := HFx.out; rw [h, HGq.out] at this; exact hbc (Option.some.inj this).symm
            have hbc' : ¬ (v1 = c1 ∧ v2 = c2) := fun h => hbc (by rw [h.1, h.2])
            go_wp2_with (at_lookup; refine wpList_lookok_k _ pairK rfl _ _ _ rfl _ Tryd.underlying36 q g rfl HG4.out (zeroM _) x y rfl hwf (.agg #[.int .i64 c1, .bool c2]) true (by rw [HGq.out]) (by rw [HGq.out]; rfl) ?_)
            case roundEnd => simp_all
            all_goals go_ret
            all_goals exact ⟨false, rfl, ⟨fun h => (by cases h), fun h => absurd h HN.out⟩, belA (belA (belA HB3.out _) _) _⟩
  · have HN : Hid (¬ f = g) := fun h => hne (HSame.out h)
    have hne' : ((kn : Int) != (jn : Int)) = true := by simp; omega
    clear HSub HSame
    go_enter Tryd.func23, Tryd.ntmps23
    go_wp2
    go_ret
    exact ⟨false, rfl, ⟨fun h => (by cases h), fun h => absurd h HN.out⟩, Below.refl _ _⟩

set_option maxRecDepth 100000 in
set_option maxHeartbeats 4000000 in
theorem same_any (f g : Th) (p q : Option Nat) (w : World) (hf : ThO w p f) (hg : ThO w q g) :
    Calls Tryd.prog 11 #[.agg #[.map p], .agg #[.map q]] w fun e w' => SameTold f g w e w' := by
  have HF := hideIt hf
  have HG := hideIt hg
  have HB := hideIt (belA (belA (Below.refl _ w) (.cells #[.map p] 38)) (.cells #[.map q] 38))
  clear hf hg
  go_enter Tryd.func11, Tryd.ntmps11
  go_wp2_with fail
  refine (equal_any f g p q _ (HF.out.bel HB.out) (HG.out.bel HB.out)).mono fun e w1 ⟨b, he, hb, hbe⟩ => ?_
  subst he
  have R : Hid (SameTold f g w (.returned (.bool b)) w1) := ⟨b, rfl, hb, belJ HB.out hbe⟩
  clear hb hbe
  go_wp2
  go_ret
  exact R.out

set_option maxRecDepth 100000 in
set_option maxHeartbeats 4000000 in
theorem drop_any (f : Th) (hF : Few 10000 f) (t : Int) (p : Option Nat) (w : World) (hs : ThO w p f) :
    Calls Tryd.prog 12 #[.agg #[.map p], .int .i64 t] w fun e w' => ThTold (dropT f t) w e w' := by
  have HS := hideIt hs
  have HF := hideIt hF
  have HM := hideIt hs.lt
  have HB := hideIt (belA (belA (Below.refl _ w) (.cells #[.map p] 38)) (.cells #[.map none] 38))
  clear hs hF
  go_enter Tryd.func12, Tryd.ntmps12
  go_wp2_with fail
  refine (copied_any f HF.out p _ (HS.out.bel HB.out)).mono fun e w1 ⟨M, he, hm, hlo, hbe⟩ => ?_
  subst he
  simp only [World.size_alloc] at hlo hbe
  have HB1 := hideIt (HB.out.trans (hbe.mono (by omega)))
  obtain ⟨c0, f0⟩ := blk1 (blkB (blkA (heap_alloc_new w (.cells #[.map p] 38))) hbe (by omega))
  have HBx : Hid (w1.heap[w.heap.size + 1]? = some (.cells #[.map none] 38)) := blkB (by simpa using heap_alloc_new (w.alloc (.cells #[.map p] 38)) (.cells #[.map none] 38)) hbe (by omega)
  have HK := hideIt hm
  have hMl := hm.lt
  have HS1 := hideIt (HS.out.bel HB1.out)
  have c0' := cellA (o := .cells #[.map (some M)] 38) c0
  clear c0
  clear hm hbe HS
  go_wp2_with (at_range; refine wpList_range_k _ pairK rfl _ _ rfl _ Tryd.underlying36 p f rfl (HS1.out.bel (belA (Below.refl _ w1) _)) ?_; intro w2 hr2 hg2 hs2)
  simp only [World.size_alloc] at hr2 hs2 ⊢
  have HB2 : Hid (Below w1.heap.size w1 w2) := (belA (Below.refl _ w1) (.cells #[.map (some M)] 38)).grown hg2 (by simp only [World.size_alloc]; omega) (fun k hk => by cases hk)
  have HC2 : Hid (w2.heap[w1.heap.size]? = some (.cells #[.map (some M)] 38)) := (hg2.block w1.heap.size (by simp only [World.size_alloc]; omega) (by simp)).trans (heap_alloc_new w1 _)
  have HR2 := hideIt hr2
  have HN2 : Hid (w1.heap.size + 1 < w2.heap.size) := by show _ < _; omega
  clear hr2 hg2 hs2 c0' f0
  go_frame
  go_loopw [] (fun wr => ∃ (left : Int → Int → Bool) (g : Th), RangeO Tryd.prog 63 mkM wr p (w1.heap.size + 1) f left ∧ ThK wr M g ∧ (∀ a b, g a b = if left a b then f a b else dropT f t a b) ∧ wr.heap[w1.heap.size]? = some (.cells #[.map (some M)] 38) ∧ wr.heap[w.heap.size + 1]? = some (.cells #[.map none] 38) ∧ Below w.heap.size w wr ∧ w1.heap.size + 1 < wr.heap.size) (fun wr => leftO wr p (w1.heap.size + 1))
  case atStart =>
    refine ⟨_, f, HR2.out, HK.out.below HB2.out hMl, fun a b => ?_, HC2.out, blkB HBx.out HB2.out (by omega), belJ HB1.out HB2.out, HN2.out⟩
    cases h : f a b <;> simp [dropT, h]
  case round =>
    clear HR2 HK HC2 HB1 HB2 HN2 HBx
    obtain ⟨left, g, hrg, hk, hg, hc2, hcx, hbe, hsz⟩ := hrel
    have HK := hideIt hk
    have HG := hideIt hg
    have HC2 := hideIt hc2
    have HCx := hideIt hcx
    have HB := hideIt hbe
    clear hk hg hc2 hcx hbe
    go_wp2_with (at_next; refine wpList_next_k _ pairK rfl _ rfl p (w1.heap.size + 1) f left rfl hrg ?_ ?_)
    · intro hleft
      have R : Hid (ThK wr M (dropT f t)) := by
        have : g = dropT f t := funext fun a => funext fun b => by rw [HG.out a b, hleft a b]; rfl
        rw [← this]; exact HK.out
      obtain ⟨c1, f1⟩ := blk1 HC2.out
      obtain ⟨c2, f2⟩ := blk1 HCx.out
      clear hleft hrg
      go_wp2
      refine bodyPost_ret (results_one rfl _ _ _ _ rfl (loadT (World.cell?_setCell_same _ _ _ c2))) rfl ?_
      exact ⟨_, rfl, R.out.block (Below.heap_setCell _ _ _ _ (by simp; omega)), by omega, HB.out.setCell (by simp) _⟩
    · intro x y v w3 hwf hfx hlx hrg3 hlt3 hg3 hs3 hen
      obtain ⟨v1, v2⟩ := v
      unfold pairV at hen
      have HA : Hid (w3.grownBy ((w3.alloc (.cells #[.int .i64 x, .int .i64 y] 63)).alloc (.cells #[.int .i64 v1, .bool v2] 61)) none) := (World.grownBy_alloc w3 _ none).andThen (World.grownBy_alloc _ _ none) (fun j hj => by cases hj)
      have HB3 : Hid (Below w.heap.size w w3) := HB.out.grown hg3 HB.out.size (fun k hk => by cases hk; omega)
      have HB4 := hideIt (belA (belA HB3.out (.cells #[.int .i64 x, .int .i64 y] 63)) (.cells #[.int .i64 v1, .bool v2] 61))
      have HK4 := hideIt ((HK.out.kept hg3 (fun e => by have := Option.some.inj e; omega)).kept HA.out (by simp))
      have HC3 := hideIt ((hg3.block w1.heap.size (by omega) (fun e => by have := Option.some.inj e; omega)).trans HC2.out)
      have HC4 := hideIt (blkA (o := .cells #[.int .i64 v1, .bool v2] 61) (blkA (o := .cells #[.int .i64 x, .int .i64 y] 63) HC3.out))
      have HX4 := hideIt (blkA (o := .cells #[.int .i64 v1, .bool v2] 61) (blkA (o := .cells #[.int .i64 x, .int .i64 y] 63) ((hg3.block (w.heap.size + 1) (by omega) (fun e => by have := Option.some.inj e; omega)).trans HCx.out)))
      have HR4 := hideIt (hrg3.kept HA.out (fun _ _ => by simp) (by simp))
      have HLt := hideIt hlt3
      have HFx := hideIt hfx
      have hsz3 : w1.heap.size + 1 < w3.heap.size := by omega
      have HOut : Hid (∀ a b, (if (left a b && (!decide (a = x) || !decide (b = y))) = true then f a b else dropT f t a b) = if a = x ∧ b = y then dropT f t a b else g a b) := fun a b => by
        by_cases e : a = x ∧ b = y
        · obtain ⟨rfl, rfl⟩ := e
          simp
        · rw [if_neg e, HG.out a b]
          have : (!decide (a = x) || !decide (b = y)) = true := by by_cases ha : a = x <;> by_cases hb : b = y <;> simp [ha, hb]; exact e ⟨ha, hb⟩
          rw [this, Bool.and_true]
      have HFew : Hid (Few 100000 g) := HF.out.mono (by omega) fun a b h => by
        rw [HG.out a b] at h
        split at h
        · exact h
        · rw [dropT_some] at h; exact h
      clear hrg hg3 hs3 hfx hrg3 hlt3
      by_cases hp : v1 = t
      · subst hp
        obtain ⟨c1, f1⟩ := blk1 HC4.out
        go_wp2_with (at_mapUpdate; refine wpList_store_k _ pairK rfl _ _ _ _ rfl _ Tryd.underlying36 M g rfl HK4.out HFew.out x y rfl hwf ⟨v1, true⟩ rfl ?_; intro w5 hm5 hg5 hs5; go_frame)
        have hr5 := HR4.out.1.kept hg5 (fun N h e => by have := HM.out N h; have := Option.some.inj e; omega) (fun e => by have := Option.some.inj e; omega)
        go_roundw
        case rel =>
          refine ⟨_, _, hr5.1, hm5, fun a b => ?_, (hg5.block _ (by simp only [World.size_alloc]; omega) (fun e => by have := Option.some.inj e; omega)).trans HC4.out, (hg5.block _ (by simp only [World.size_alloc]; omega) (fun e => by have := Option.some.inj e; omega)).trans HX4.out, HB4.out.grown hg5 HB4.out.size (fun k hk => by cases hk; omega), by rw [hs5]; simp only [World.size_alloc]; omega⟩
          rw [HOut.out a b]
          by_cases e : a = x ∧ b = y
          · obtain ⟨rfl, rfl⟩ := e
            rw [putK2_same, if_pos ⟨rfl, rfl⟩]
            simp [dropT, HFx.out]
          · rw [putK2_other _ _ _ _ _ _ e, if_neg e]
        case measure => rw [hr5.2, HR4.out.2]; exact HLt.out
      · have hp' : (v1 == t) = false := by simp [hp]
        go_wp2
        go_roundw
        case rel =>
          refine ⟨_, _, HR4.out.1, HK4.out, fun a b => ?_, HC4.out, HX4.out, HB4.out, by simp only [World.size_alloc]; omega⟩
          rw [HOut.out a b]
          by_cases e : a = x ∧ b = y
          · obtain ⟨rfl, rfl⟩ := e
            rw [if_pos ⟨rfl, rfl⟩, HG.out a b, hlx, if_pos rfl]
            simp [dropT, HFx.out, hp]
          · rw [if_neg e]
        case measure => rw [HR4.out.2]; exact HLt.out
end Go.Proofs.YthphoiadhddggaaDoor
