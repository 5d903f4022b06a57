/-
  The statements' own word 'lattice' at Things, walked.
-/
import Derived.Test.YthphoiadhddggaaAlT
import Derived.Test.YthphoiadhddggaaLatG
namespace Go.Proofs.Ythphoiadhddggaa
open Go.RowKit

open Classical in
noncomputable def sameTB (f g : Th) : Bool := decide (f = g)
theorem sameTB_iff {f g : Th} : sameTB f g = true ↔ f = g := by unfold sameTB; simp
theorem buildT2 (p q : Option Nat) (w : World) : (Instr.buildSlice 73 2 #[(0, .agg #[.map p]), (1, .agg #[.map q])]).run Try.prog w = .ok (.slice (some ⟨w.heap.size, 0, none⟩) 2 2) (w.alloc (.cells #[.map p, .map q] 39)) := by kernel_rfl
theorem buildT3 (p q r : Option Nat) (w : World) : (Instr.buildSlice 73 3 #[(0, .agg #[.map p]), (1, .agg #[.map q]), (2, .agg #[.map r])]).run Try.prog w = .ok (.slice (some ⟨w.heap.size, 0, none⟩) 3 3) (w.alloc (.cells #[.map p, .map q, .map r] 39)) := by kernel_rfl
theorem latOkT (L : List (Int × Int)) (hL : L.length ≤ 10000) : LatOk (RepT L) (RepTS L) joinT sameTB Try.prog 39 73 20 51 33 where
  stab := fun _ _ _ _ h hb => h.bel hb
  stabS := fun _ _ _ _ h hb => h.bel hb
  mJ := fun _ _ _ => by kernel_rfl
  mS := fun _ _ _ => by kernel_rfl
  cA := fun _ _ => by kernel_rfl
  mkI := fun _ _ => by kernel_rfl
  join := fun x y u v w hx hy => by
    obtain ⟨h1, p, rfl, h2⟩ := hx
    obtain ⟨h3, q, rfl, h4⟩ := hy
    refine (join_any x y (h1.few hL) ((h1.join h3).few hL) p q w h2 h4).mono fun e w' ⟨M, he, hm, _, hb⟩ => ?_
    exact ⟨_, he, ⟨h1.join h3, some M, rfl, .inr ⟨M, rfl, hm⟩⟩, hb⟩
  same := fun x y u v w hx hy => by
    obtain ⟨_, p, rfl, h2⟩ := hx
    obtain ⟨_, q, rfl, h4⟩ := hy
    refine (same_any x y p q w h2 h4).mono fun e w' ⟨b, he, hb, hbe⟩ => ?_
    refine ⟨?_, hbe⟩
    rw [he]
    refine ret_bool ?_
    rw [Bool.eq_iff_iff, hb, sameTB_iff]
  b2 := fun x y u v w hx hy => by
    obtain ⟨h1, p, rfl, h2⟩ := hx
    obtain ⟨h3, q, rfl, h4⟩ := hy
    have hb := belA (Below.refl _ w) (.cells #[.map p, .map q] 39)
    obtain ⟨c0, c1, _⟩ := blk2 (heap_alloc_new w (.cells #[.map p, .map q] 39))
    refine ⟨_, _, buildT2 p q w, ⟨w.heap.size, rfl, by simp, by simp, fun i hi => ?_⟩, hb⟩
    match i, hi with
    | 0, _ => exact ⟨h1, p, c0, h2.bel hb⟩
    | 1, _ => exact ⟨h3, q, c1, h4.bel hb⟩
  b3 := fun x y z u v t w hx hy hz => by
    obtain ⟨h1, p, rfl, h2⟩ := hx
    obtain ⟨h3, q, rfl, h4⟩ := hy
    obtain ⟨h5, r, rfl, h6⟩ := hz
    have hb := belA (Below.refl _ w) (.cells #[.map p, .map q, .map r] 39)
    refine ⟨_, _, buildT3 p q r w, ⟨w.heap.size, rfl, by simp, by simp, fun i hi => ?_⟩, hb⟩
    match i, hi with
    | 0, _ => exact ⟨h1, p, by rw [cell_of_row _ _ _ _ 39 _ (heap_alloc_new w _)]; rfl, h2.bel hb⟩
    | 1, _ => exact ⟨h3, q, by rw [cell_of_row _ _ _ _ 39 _ (heap_alloc_new w _)]; rfl, h4.bel hb⟩
    | 2, _ => exact ⟨h5, r, by rw [cell_of_row _ _ _ _ 39 _ (heap_alloc_new w _)]; rfl, h6.bel hb⟩
  all := fun x xs u s w hx hs => allT_any L hL x xs u s w hx hs

/-- What both know of a tag is the same thing. -/
def Like (f g : Th) : Prop := ∀ a b m n, f a b = some m → g a b = some n → m.x = n.x
theorem mk_eq {m n : Mk} (h1 : m.x = n.x) (h2 : m.g = n.g) : m = n := by
  cases m; cases n; simp_all
theorem join_comm {f g : Th} (h : Like f g) : joinT f g = joinT g f := by
  funext a b
  have := h a b
  unfold joinT
  cases hf : f a b with
  | none => cases hg : g a b with
    | none => rfl
    | some n => simp [goneT]
  | some m => cases hg : g a b with
    | none => simp [goneT]
    | some n => simp only [goneT]; rw [this m n hf hg, Bool.or_comm]
theorem join_self (f : Th) : joinT f f = f := by
  funext a b
  unfold joinT
  cases hf : f a b with
  | none => rfl
  | some m => simp [goneT]
theorem join_assoc (f g h : Th) : joinT (joinT f g) h = joinT f (joinT g h) := by
  funext a b
  unfold joinT
  cases hh : h a b with
  | none => rfl
  | some l => cases hg : g a b with
    | none => simp [goneT]
    | some n => cases hf : f a b with
      | none => simp [goneT]
      | some m => simp [goneT, Bool.or_assoc]
theorem Like.join {f g h : Th} (h1 : Like f h) (h2 : Like g h) : Like (joinT f g) h := fun a b m n hm hn => by
  unfold joinT at hm
  cases hg : g a b with
  | none => rw [hg] at hm; exact h1 a b m n hm hn
  | some l => rw [hg] at hm; obtain rfl := Option.some.inj hm; exact h2 a b l n hg hn

set_option maxRecDepth 100000 in
set_option maxHeartbeats 4000000 in
theorem latticeT_any (L : List (Int × Int)) (hL : L.length ≤ 10000) (f g h : Th) (h1 : Like f g) (h2 : Like f h) (h3 : Like g h) (p q r : Option Nat) (w : World) (hp : RepT L f (.agg #[.map p]) w) (hq : RepT L g (.agg #[.map q]) w) (hr : RepT L h (.agg #[.map r]) w) :
    Calls Try.prog 18 #[.agg #[.map p], .agg #[.map q], .agg #[.map r]] w fun e w' => e = .returned (.bool true) ∧ Below w.heap.size w w' := by
  have HP := hideIt hp
  have HQ := hideIt hq
  have HR := hideIt hr
  have e1 : Hid (sameTB (joinT f g) (joinT g f) = true) := sameTB_iff.2 (join_comm h1)
  have e2 : Hid (sameTB (joinT f f) f = true) := sameTB_iff.2 (join_self f)
  have e3 : Hid (sameTB (joinT (joinT f g) h) (joinT f (joinT g h)) = true) := sameTB_iff.2 (join_assoc f g h)
  have e4 : Hid (sameTB ([g, h].foldl joinT f) ([f, g, f].foldl joinT h) = true) := by
    refine sameTB_iff.2 ?_
    simp only [List.foldl_cons, List.foldl_nil]
    rw [join_assoc h f g, join_assoc h (joinT f g) f, join_comm (f := joinT f g) (g := f) ((fun a b m n hm hn => by
      unfold joinT at hm
      cases hg : g a b with
      | none => rw [hg, hn] at hm; rw [Option.some.inj hm]
      | some l => rw [hg] at hm; obtain rfl := Option.some.inj hm; exact (h1 a b n l hn hg).symm)), ← join_assoc f f g, join_self]
    exact join_comm (h2.join h3)
  clear hp hq hr h1 h2 h3
  go_enter Try.func18, Try.ntmps18
  go_upto_region 1 with fail
  have HB : Hid (Below w.heap.size w (((w.alloc (.cells #[.map p] 39)).alloc (.cells #[.map q] 39)).alloc (.cells #[.map r] 39))) := belA (belA (belA (Below.refl _ _) _) _) _
  have HC0 : Hid ((((w.alloc (.cells #[.map p] 39)).alloc (.cells #[.map q] 39)).alloc (.cells #[.map r] 39)).heap[w.heap.size]? = some (.cells #[.map p] 39)) := blkA (blkA (heap_alloc_new w _))
  have HC1 : Hid ((((w.alloc (.cells #[.map p] 39)).alloc (.cells #[.map q] 39)).alloc (.cells #[.map r] 39)).heap[w.heap.size + 1]? = some (.cells #[.map q] 39)) := blkA (by simpa using heap_alloc_new (w.alloc (.cells #[.map p] 39)) (.cells #[.map q] 39))
  have HC2 : Hid ((((w.alloc (.cells #[.map p] 39)).alloc (.cells #[.map q] 39)).alloc (.cells #[.map r] 39)).heap[w.heap.size + 1 + 1]? = some (.cells #[.map r] 39)) := by
    have := heap_alloc_new ((w.alloc (.cells #[.map p] 39)).alloc (.cells #[.map q] 39)) (.cells #[.map r] 39)
    simp only [World.size_alloc] at this
    exact this
  generalize ((w.alloc _).alloc _).alloc _ = W at HB HC0 HC1 HC2 ⊢
  have hld : ∀ (b : Nat) (o : Option Nat) (X : Th), W.heap[b]? = some (.cells #[.map o] 39) → RepT L X (.agg #[.map o]) w → ∀ w', Below W.heap.size W w' → ∃ u, (Instr.loadAt 39 (.pointer (some ⟨b, 0, none⟩))).run Try.prog w' = .ok u w' ∧ RepT L X u w' := fun b o X hb hX w' hw' => by
    have hc := (blk1 (blkB hb hw' (Array.getElem?_eq_some_iff.1 hb).1)).1
    refine ⟨.agg #[.map o], ?_, hX.bel (belJ HB.out hw')⟩
    simp only [Instr.loadAt, Instr.sureAddr, Sem.run_bind, Sem.run_pure, Result.andThen_ok, loadT hc]
  refine lat_region (RepT L) (RepTS L) joinT sameTB (latOkT L hL) e1.out e2.out e3.out e4.out (by kernel_rfl) w.heap.size (w.heap.size + 1) (w.heap.size + 1 + 1) W (hld _ p f HC0.out HP.out) (hld _ q g HC1.out HQ.out) (hld _ r h HC2.out HR.out) _ rfl rfl rfl rfl (fun a w' hb hd ht => ?_)
  go_wp2
  refine bodyPost_ret (results_tmp rfl a.tmps _ w') hd ⟨?_, belJ HB.out hb⟩
  rw [ht]
end Go.Proofs.Ythphoiadhddggaa
