/-
  Chapter 15.2: what Things know, in memory: tags (pairs of numbers) with a mark each.
-/
import Derived.Test.YthphoiadhddggaaDoorMpR
import Derived.Handy
namespace Go.Proofs.YthphoiadhddggaaDoor
open Go.RowKit Go.WideMaps
open Go.Maps (Keyed IsMap)

/-- What Things know of each tag: its thing, and whether it is gone. -/
structure Mk where
  x : Int
  g : Bool
  deriving DecidableEq
abbrev Th : Type := Int → Int → Option Mk
abbrev mkM (m : Mk) : Value := .agg #[.int .i64 m.x, .bool m.g]

theorem rowPair : (63 : TypeId) < Tryd.prog.types.size := of_decide_eq_true (by kernel_rfl)
theorem cellsPair : Tryd.prog.cellsOf 63 = 2 := by kernel_rfl
theorem cellsInt1 : Tryd.prog.cellsOf 3 = 1 := by kernel_rfl
theorem deepPair : Tryd.prog.keyType 63 = true := by kernel_rfl
theorem widePair : (match Tryd.prog.underlying 63 with | some (.array _ _) | some (.struct _) => true | _ => false) = true := by kernel_rfl
theorem laidOutP : laidOutB Tryd.prog = true := by kernel_rfl
set_option maxRecDepth 100000 in
theorem keyedPair : Keyed Tryd.prog 63 := Keyed.of_law (deep_law_laid laidOutP (m := 3) (by omega) rowPair (by kernel_rfl) widePair)
theorem pair_some (a b : Int) (h : Wf2 a b) : (keyOf Tryd.prog 63 (pairV a b)).isSome = true := by
  obtain ⟨n, hn⟩ : ∃ n, Tryd.prog.types.size = n := ⟨_, rfl⟩
  have hpos : (63 : Nat) < n := by rw [← hn]; exact rowPair
  obtain ⟨m, rfl⟩ : ∃ m, n = m + 1 := ⟨n - 1, by omega⟩
  have e3 : ∀ m x, (Lit.int .i64 x).wf = true → Tryd.prog.keyLits (m + 1) 3 [.int .i64 x] = some [.int .i64 x] := fun m x hx => by
    unfold Program.keyLits
    rw [Tryd.underlying3]
    simp [hx]
  have e : Tryd.prog.keyLits (m + 1 + 1) 63 [.int .i64 a, .int .i64 b] = some [.int .i64 a, .int .i64 b] := by
    unfold Program.keyLits
    rw [Tryd.underlying63]
    simp [cellsPair, cellsInt1, e3 m a h.1, e3 m b h.2]
  have hf : (pairV a b).formed Tryd.prog 63 = true := by
    unfold pairV
    simp [Value.formed, Tryd.underlying63, cellsPair]
  unfold keyOf
  rw [Tryd.underlying63]
  simp only [deepPair, hf, hn, Bool.and_self, if_true]
  rw [show (pairV a b).cells.toList = [.int .i64 a, .int .i64 b] from rfl, e]
  rfl
theorem pairK : PairK Tryd.prog 63 := ⟨keyedPair, pair_some⟩
theorem zeroM (w : World) : (zeroValue 61).run Tryd.prog w = .ok (.agg #[.int .i64 0, .bool false]) w := by kernel_rfl

/-- A map of a Things. -/
abbrev ThK (w : World) (M : Nat) (f : Th) : Prop := MapK Tryd.prog 63 mkM w M f
abbrev ThO (w : World) (p : Option Nat) (f : Th) : Prop := MapO Tryd.prog 63 mkM w p f
/-- What a call that makes Things tells: a map of its own. -/
def ThTold (f : Th) (w : World) (e : Ending) (w' : World) : Prop := ∃ M, e = .returned (.agg #[.map (some M)]) ∧ ThK w' M f ∧ w.heap.size ≤ M ∧ Below w.heap.size w w'
theorem ThTold.lt {f : Th} {w w' : World} {e : Ending} (h : ThTold f w e w') : ∃ M, e = .returned (.agg #[.map (some M)]) ∧ ThO w' (some M) f ∧ M < w'.heap.size ∧ Below w.heap.size w w' := by
  obtain ⟨M, h1, h2, _, h4⟩ := h
  exact ⟨M, h1, .inr ⟨M, rfl, h2⟩, h2.lt, h4⟩

set_option maxRecDepth 100000 in
set_option maxHeartbeats 4000000 in
theorem copy_any (fs : Th) (hF : Few 10000 fs) (p : Option Nat) (Md : Nat) (w : World) (hs : ThO w p fs) (hd : ThK w Md (fun _ _ => none)) (hne : ∀ M, p = some M → M ≠ Md) :
    Calls Tryd.prog 27 #[.map (some Md), .map p] w fun e w' => e = .returned (.tuple #[]) ∧ ThK w' Md fs ∧ w.grownBy w' (some Md) := by
  have HS := hideIt hs
  have HD := hideIt hd
  have hMd := hd.lt
  clear hs hd
  go_enter Tryd.func27, Tryd.ntmps27
  go_wp2_with (at_range; refine wpList_range_k _ pairK rfl _ _ rfl _ Tryd.underlying36 p fs rfl HS.out ?_; intro w1 hr1 hg1 hs1)
  have HR1 := hideIt hr1
  have HG1 := hideIt hg1
  clear hr1 hg1 hs1
  go_frame
  go_loopw [] (fun wr => ∃ (left : Int → Int → Bool) (g : Th), RangeO Tryd.prog 63 mkM wr p w.heap.size fs left ∧ ThK wr Md g ∧ (∀ a b, left a b = false → g a b = fs a b) ∧ (∀ a b x, g a b = some x → fs a b = some x) ∧ w.grownBy wr (some Md)) (fun wr => leftO wr p w.heap.size)
  case atStart => exact ⟨_, _, HR1.out, HD.out.kept HG1.out (by simp), fun a b h => by cases e : fs a b <;> simp_all, fun a b x h => (by cases h), HG1.out.but _⟩
  case round =>
    clear HR1 HG1
    obtain ⟨left, g, hrg, hg, hl, hsub, hgr⟩ := hrel
    have HL := hideIt hl
    have HSub := hideIt hsub
    have HGr := hideIt hgr
    have HG := hideIt hg
    clear hl hsub hgr hg
    go_wp2_with (at_next; refine wpList_next_k _ pairK rfl _ rfl p w.heap.size fs left rfl hrg ?_ ?_)
    · intro hleft
      have R : Hid (ThK wr Md fs) := by
        have : g = fs := funext fun a => funext fun b => HL.out a b (hleft a b)
        rw [← this]; exact HG.out
      clear hleft hrg
      go_wp2
      go_end0
      exact ⟨rfl, R.out, HGr.out⟩
    · intro x y v w3 hwf hfx hlx hrg3 hlt3 hg3 hs3 hen
      obtain ⟨v1, v2⟩ := v
      unfold pairV at hen
      have HGr3 : Hid (w.grownBy w3 (some Md)) := HGr.out.andThen hg3 (fun j hj => .inl (by cases hj; exact Nat.le_refl _))
      have hszw := HGr.out.size
      have HG3 : Hid (ThK w3 Md g) := HG.out.kept hg3 (fun e => by have := Option.some.inj e; omega)
      clear hg3 hs3 hrg
      have HA : Hid (w3.grownBy ((w3.alloc (.cells #[.int .i64 x, .int .i64 y] 63)).alloc (.cells #[.int .i64 v1, .bool v2] 61)) none) := (World.grownBy_alloc w3 _ none).andThen (World.grownBy_alloc _ _ none) (fun j hj => by cases hj)
      have HF : Hid (Few 100000 g) := hF.mono (by omega) fun a b h => by
        obtain ⟨z, hz⟩ := Option.isSome_iff_exists.1 h
        rw [HSub.out a b z hz]; rfl
      go_wp2_with (at_mapUpdate; refine wpList_store_k _ pairK rfl _ _ _ _ rfl _ Tryd.underlying36 Md g rfl (HG3.out.kept HA.out (by simp)) HF.out x y rfl hwf ⟨v1, v2⟩ rfl ?_; intro w4 hm4 hg4 hs4; go_frame)
      have hr4 := (hrg3.kept HA.out (fun _ _ => by simp) (by simp)).1.kept hg4 (fun M h e => hne M h (Option.some.inj e)) (fun e => by have := Option.some.inj e; omega)
      have HL4 := hideIt (hr4.2.trans (hrg3.kept HA.out (fun _ _ => by simp) (by simp)).2)
      go_roundw
      case rel =>
        refine ⟨_, _, hr4.1, hm4, fun a b h => ?_, fun a b z h => ?_, ?_⟩
        · by_cases e : a = x ∧ b = y
          · obtain ⟨rfl, rfl⟩ := e
            rw [putK2_same, hfx]
          · rw [putK2_other _ _ _ _ _ _ e]
            refine HL.out a b ?_
            cases hl : left a b with
            | false => rfl
            | true =>
              simp only [hl, Bool.true_and] at h
              simp at h
              exact absurd h e
        · by_cases e : a = x ∧ b = y
          · obtain ⟨rfl, rfl⟩ := e
            rw [putK2_same] at h
            rw [hfx]; exact h
          · rw [putK2_other _ _ _ _ _ _ e] at h
            exact HSub.out a b z h
        · exact (HGr3.out.andThen HA.out (fun j hj => by cases hj)).andThen hg4 (fun j hj => .inr hj)
      case measure => rw [HL4.out]; exact hlt3
end Go.Proofs.YthphoiadhddggaaDoor
