/-
  Both stores in one memory: what turns the one leaves the other.
  The document's store, walked: Part.
-/
import Derived.Test.YtncnojgemmcplaaGreatDoorDwKZ
import Derived.Test.YtncnojgemmcplaaGreatDoorSwPZ
import Derived.Test.YtncnojgemmcplaaGreatDoorSmSZ
import Derived.Deep.RegionWith
namespace Go.Proofs.YtncnojgemmcplaaGreatDoor.St.Dc
open Go.RowKit

structure Both (w0 W : World) (Kp : StK) (Kd : DoK) (P : Pst) (S : Sto) : Prop where
  p : StoP w0 W Kp P
  d : DoR w0 W Kd S
  pl : DoPl Kd S
  dj : ∀ (i j b : Nat), i < P.k → j < S.k → (Kp.cv i).ownBlock = some b → (Kd.cv j).ownBlock ≠ some b
section
variable {w0 W W' : World} {Kp Kp' : StK} {Kd Kd' : DoK} {P P' : Pst} {S S' : Sto}
theorem own_tag (h : StoP w0 W Kp P) {b : Nat} (hb : Kp.own P.k b) : tagD W.heap[b]? ∈ [82, 85, 104, 128, 102, 61] ∨ ∃ i, i < P.k ∧ (Kp.cv i).ownBlock = some b ∧ tagD W.heap[b]? = 4 := by
  rcases hb with rfl | rfl | rfl | hb | hb | hb | ⟨i, hi, hb⟩
  · left; rw [h.tB]; decide
  · left; rw [h.tN]; decide
  · left; rw [h.tC]; decide
  · left; rw [h.tM hb]; decide
  · left; rw [h.tE hb]; decide
  · left; rw [h.tS hb]; decide
  · exact .inr ⟨i, hi, hb, h.tI hi hb⟩
theorem Both.apart (h : Both w0 W Kp Kd P S) {b : Nat} (hb : Kp.own P.k b) {p : Pc} (hp : p.ok S.k) : Kd.at p ≠ some b := fun he => by
  have ht := h.d.tag hp he
  rcases own_tag h.p hb with h1 | ⟨i, hi, h1, h2⟩
  · rw [ht] at h1
    cases p <;> exact absurd h1 (by simp [Pc.tag])
  · rw [ht] at h2
    cases p with
    | cv j => exact h.dj i j b hi hp h1 he
    | _ => exact absurd h2 (by simp [Pc.tag])
theorem Both.apart2 (h : Both w0 W Kp Kd P S) {b : Nat} (hb : Kp.own P.k b) : ¬ Kd.own S.k W b := fun ho => by
  rcases ho with ho | ho | ⟨i, hi, ho⟩
  · unfold dtg at ho
    rcases own_tag h.p hb with h1 | ⟨i, hi, h1, h2⟩
    · simp at h1 ho; omega
    · rw [h2] at ho; simp at ho
  · exact h.apart hb (p := .M) trivial (by rw [ho]; rfl)
  · exact h.apart hb (p := .cv i) hi ho
/-- The program's store is turned. -/
theorem Both.tag36 (h : Both w0 W Kp Kd P S) {b x : Nat} (hx : tagD W.heap[b]? = x) (h2 : x = 36 ∨ x = 24) : ¬ Kp.own P.k b ∧ ¬ Kd.own S.k W b := by
  refine ⟨fun ho => ?_, fun ho => ?_⟩
  · rcases own_tag h.p ho with h1 | ⟨i, _, _, h1⟩
    · rw [hx] at h1; rcases h2 with rfl | rfl <;> simp at h1
    · rw [hx] at h1; rcases h2 with rfl | rfl <;> cases h1
  · rcases ho with ho | ho | ⟨i, hi, ho⟩
    · unfold dtg at ho
      rw [hx] at ho
      rcases h2 with rfl | rfl <;> simp at ho
    · have h1 := h.d.tag (p := .M) trivial rfl
      rw [← ho, hx] at h1
      rcases h2 with rfl | rfl <;> exact absurd h1 (by simp [Pc.tag])
    · have h1 := h.d.tag (p := .cv i) hi ho
      rw [hx] at h1
      rcases h2 with rfl | rfl <;> exact absurd h1 (by simp [Pc.tag])
theorem Both.prog (h : Both w0 W Kp Kd P S) (ht : StTold w0 Kp P W P' W') (hk : P'.k = P.k) : ∃ Kp', Both w0 W' Kp' Kd P' S ∧ Kp'.B = Kp.B ∧ (∀ b, b < W.heap.size → (tagD W.heap[b]? = 36 ∨ tagD W.heap[b]? = 24) → W'.heap[b]? = W.heap[b]?) ∧ W.heap.size ≤ W'.heap.size := by
  obtain ⟨Kp', hp, hf⟩ := ht
  refine ⟨Kp', ⟨hp, h.d.keep hp.bel (fun p b hpk hb => hf.rest b ((h.d.facts p hpk).blk hb).2.1 fun ho => h.apart ho hpk hb) (fun b hb => hf.rest b hb.lt fun ho => h.p.ltg hb ho), h.pl, fun i j b hi hj h1 h2 => ?_⟩, hf.B.1, fun b hb ht => hf.rest b hb (h.tag36 rfl ht).1, hf.size⟩
  rw [hk] at hi
  rcases hf.own b (.inr (.inr (.inr (.inr (.inr (.inr ⟨i, hi, h1⟩)))))) with ho | ho
  · exact h.apart ho (p := .cv j) hj h2
  · have := ((h.d.facts (.cv j) hj).blk h2).2.1
    omega
/-- The document's store is turned. -/
theorem Both.doc (h : Both w0 W Kp Kd P S) {c : Nat} (ht : DoTold c w0 Kd S W S' W') (hk : S'.k = S.k) : ∃ Kd', Both w0 W' Kp Kd' P S' ∧ Kd'.B = Kd.B ∧ Kd'.lt.length ≤ Kd.lt.length + c ∧ (∀ b, b < W.heap.size → (tagD W.heap[b]? = 36 ∨ tagD W.heap[b]? = 24) → W'.heap[b]? = W.heap[b]?) ∧ W.heap.size ≤ W'.heap.size := by
  obtain ⟨Kd', hd, hl, hc, hf⟩ := ht
  refine ⟨Kd', ⟨h.p.keep hd.bel (fun b hb => hf.rest b (h.p.own_lt hb).2 (h.apart2 hb)) (fun b hb => hf.rest b hb.lt (h.d.ltg hb)), hd, hl, fun i j b hi hj h1 h2 => ?_⟩, hf.fix.1, hc, fun b hb ht => hf.rest b hb (h.tag36 rfl ht).2, hf.size⟩
  rw [hk] at hj
  have ho : Kp.own P.k b := .inr (.inr (.inr (.inr (.inr (.inr ⟨i, hi, h1⟩)))))
  rcases hf.own j b hj h2 with ⟨q, hq, h3⟩ | h3
  · exact h.dj i q b hi hq h1 h3
  · have := (h.p.own_lt ho).2
    omega
theorem Both.below (h : Both w0 W Kp Kd P S) (hb : Below W.heap.size W W') : Both w0 W' Kp Kd P S := ⟨h.p.below hb, h.d.below hb, h.pl, h.dj⟩
end
end Go.Proofs.YtncnojgemmcplaaGreatDoor.St.Dc

namespace Go.Proofs.YtncnojgemmcplaaGreatDoor.St.Dc
open Go.RowKit

theorem new_atX {W : World} {cs : Array Value} {t : TypeId} {k j : Nat} {u : Value} (hk : k = W.heap.size) (h : cs[j]? = some u) : (W.alloc (.cells cs t)).cell? ((⟨k, 0, none⟩ : Addr).add j) = some u := by
  subst hk
  rw [Addr.add_lit, Nat.zero_add, cell_of_row _ _ _ _ _ _ (heap_alloc_new W _)]
  exact h
/-- A client counts as a node. -/
def asN (n i : Nat) : Nat := if n ≤ i then (i - n) % n else i
theorem asN_lt {n i : Nat} (hn : 1 ≤ n) : asN n i < n := by
  unfold asN
  split
  · exact Nat.mod_lt _ (by omega)
  · omega
theorem asNode_nat (n i : Nat) : asNode n (i : Int) = (asN n i : Nat) := by
  unfold asNode asN
  by_cases h : n ≤ i
  · rw [if_pos h, if_pos (by omega)]
    obtain ⟨d, rfl⟩ : ∃ d, i = n + d := ⟨i - n, by omega⟩
    rw [Nat.add_sub_cancel_left, Int.natCast_emod]
    congr 1
    omega
  · rw [if_neg h, if_neg (by omega)]
/-- What a table tells. -/
theorem openL_tab (N : Nat) (R : Nat → Nat → Bool) (a b : Int) : openL true (tabM N N R) a b = (decide (0 ≤ a ∧ a < N) && decide (0 ≤ b ∧ b < N) && R a.toNat b.toNat) := by
  unfold openL
  rw [if_neg (by decide)]
  by_cases h : 0 ≤ a ∧ 0 ≤ b
  · rw [if_pos h]
    obtain ⟨i, rfl⟩ : ∃ i : Nat, a = i := ⟨a.toNat, by omega⟩
    obtain ⟨j, rfl⟩ : ∃ j : Nat, b = j := ⟨b.toNat, by omega⟩
    simp only [Int.toNat_natCast]
    by_cases hi : i < N
    · by_cases hj : j < N
      · simp [tabM, hi, hj]
      · simp [tabM, hi, hj]
    · simp [tabM, hi]
  · rw [if_neg h]
    symm
    rw [Bool.and_eq_false_iff, Bool.and_eq_false_iff]
    rcases Classical.not_and_iff_not_or_not.1 h with h | h
    · exact .inl (.inl (decide_eq_false (fun e => h e.1)))
    · exact .inl (.inr (decide_eq_false (fun e => h e.1)))
/-- The document's cut by a rule, as a table. -/
theorem cutL_tab (n k : Nat) (what who : Int) (a b : Int) : cutL n k what who a b = openL true (tabM (n + k) (n + k) fun i j => linkedB what n who ((asN n i : Nat) : Int) ((asN n j : Nat) : Int)) a b := by
  rw [openL_tab]
  unfold cutL
  by_cases ha : 0 ≤ a ∧ a < (n : Int) + k
  · by_cases hb : 0 ≤ b ∧ b < (n : Int) + k
    · obtain ⟨i, rfl⟩ : ∃ i : Nat, a = i := ⟨a.toNat, by omega⟩
      obtain ⟨j, rfl⟩ : ∃ j : Nat, b = j := ⟨b.toNat, by omega⟩
      rw [asNode_nat, asNode_nat]
      simp only [Int.toNat_natCast, Int.natCast_add]
    · rw [decide_eq_false hb, decide_eq_false (p := 0 ≤ b ∧ b < ((n + k : Nat) : Int)) (by omega)]
      simp
  · rw [decide_eq_false ha, decide_eq_false (p := 0 ≤ a ∧ a < ((n + k : Nat) : Int)) (by omega)]
    simp
set_option maxRecDepth 100000 in
theorem part1_any (n i : Nat) (hn : 1 ≤ n) (hn7 : n ≤ 7) (hi : i ≤ 1000) (g : Nat) (Z : World) (h : Z.cell? ⟨g, 0, none⟩ = some (.int .i64 (n : Int))) :
    Calls Tryz.prog 74 #[.int .i64 (i : Int), .pointer (some ⟨g, 0, none⟩)] Z fun e w' => e = .returned (.int .i64 ((asN n i : Nat) : Int)) ∧ w' = Z := by
  have hne : ((n : Int) == 0) = false := by simp; omega
  have hne2 : ¬ (n : Int) = 0 := by omega
  by_cases hni : n ≤ i
  · have e1 : asN n i = (i - n) % n := by unfold asN; rw [if_pos hni]
    rw [e1]
    have hc : decide ((i : Int) ≥ (n : Int)) = true := decide_eq_true (by omega)
    have w1 : IntKind.i64.wrap ((i : Int) - (n : Int)) = ((i - n : Nat) : Int) := by rw [IntWalk.i64_in _ (by omega)]; omega
    generalize i - n = d at *
    clear e1 hi
    go_enter Tryz.func74, Tryz.ntmps74
    go_wp2
    go_ret
    exact ⟨rfl, rfl⟩
  · have e1 : asN n i = i := by unfold asN; rw [if_neg hni]
    rw [e1]
    have hc : decide ((i : Int) ≥ (n : Int)) = false := decide_eq_false (by omega)
    clear e1 hi
    go_enter Tryz.func74, Tryz.ntmps74
    go_wp2
    go_ret
    exact ⟨rfl, rfl⟩
section
variable {w0 W W' : World} {K : DoK} {S : Sto}
set_option maxRecDepth 100000 in
theorem partD_all (h : DoR w0 W K S) (hp : DoPl K S) : Calls Tryz.prog 37 #[.pointer (some ⟨K.B, 0, none⟩), .bool true, .slice none 0 0] W fun e w' => e = .returned (.int .i64 0) ∧ DoTold 0 w0 K S W { S with links := fun _ _ => true } w' := by
  have hB := h.facts .B trivial
  have HR := hideIt (h.relink (W' := W.setCell ⟨K.B, 5, none⟩ (.bool false)) (cut := false) (lv := K.lv) (LM := K.LM) (h.bel.setCell (p := ⟨K.B, 5, none⟩) hB.2 _) (by simp) (fun b _ hb => Below.heap_setCell W ⟨K.B, 5, none⟩ _ b hb) (heap_setCell_same W K.B 5 _ 58 _ hB.1) (fun e => by cases e))
  have HP := hideIt hp
  have hfz := h.fzB 5
  have c5 := h.cells.2.1.1
  clear h hp hB
  go_enter Tryz.func37, Tryz.ntmps37
  go_wp2
  go_ret
  exact ⟨rfl, _, HR.out.1.cast _ _ _, ⟨HP.out.ms, HP.out.wh, HP.out.hs, HP.out.fw, fun a b => rfl⟩, Nat.le_refl _, HR.out.2⟩
set_option maxRecDepth 100000 in
theorem partD_bad (h : DoR w0 W K S) (hp : DoPl K S) {a : Option Addr} {x c : Nat} (hx : x ≠ S.n) : Calls Tryz.prog 37 #[.pointer (some ⟨K.B, 0, none⟩), .bool false, .slice a x c] W fun e w' => e = .returned (.int .i64 3) ∧ DoTold 0 w0 K S W S w' := by
  have HB := hideIt (belA (Below.refl _ W) (.cells #[.int .i64 (S.n : Int)] 3))
  have HD := hideIt (h.below (belA (Below.refl _ W) (.cells #[.int .i64 (S.n : Int)] 3)))
  have HP := hideIt hp
  have c0 := h.cells.1.1
  have hne : (((x : Int)) != ((S.n : Int))) = true := by simp; omega
  clear h hp
  go_enter Tryz.func37, Tryz.ntmps37
  go_wp2
  go_ret
  exact ⟨rfl, K, HD.out, HP.out, Nat.le_refl _, DFr.below HB.out⟩
/-- While the links are built. -/
structure PaI (w0 W : World) (K : DoK) (S : Sto) (N : Nat) (R : Nat → Nat → Bool) (wr : World) (v : Value) (m : Nat) : Prop where
  bel : Below w0.heap.size w0 wr
  size : W.heap.size < wr.heap.size
  rest : ∀ b, b < W.heap.size → b ≠ K.B → wr.heap[b]? = W.heap[b]?
  blk : wr.heap[K.B]? = some (doO { K with cut := true, lv := v } S)
  box : wr.heap[W.heap.size]? = some (.cells #[.int .i64 (S.n : Int)] 3)
  lt : K.B < W.heap.size
  lo : w0.heap.size ≤ K.B
  tb : TbG wr (W.heap.size + 1) v m N R
theorem PaI.below {N : Nat} {R : Nat → Nat → Bool} {wr wz : World} {v : Value} {m : Nat} (h : PaI w0 W K S N R wr v m) (hb : Below wr.heap.size wr wz) : PaI w0 W K S N R wz v m := by
  have hs := h.size
  have hl := h.lt
  exact ⟨belJ h.bel hb, Nat.lt_of_lt_of_le hs hb.size, fun b hb' hn => (hb.block b (by omega)).trans (h.rest b hb' hn), (hb.block _ (by omega)).trans h.blk, (hb.block _ hs).trans h.box, hl, h.lo, h.tb.below hb⟩
theorem PaI.cells {N : Nat} {R : Nat → Nat → Bool} {wr : World} {v : Value} {m : Nat} (h : PaI w0 W K S N R wr v m) : wr.cell? ⟨W.heap.size, 0, none⟩ = some (.int .i64 (S.n : Int)) ∧ wr.cell? ⟨K.B, 6, none⟩ = some v ∧ wr.cell? ⟨K.B, 10, none⟩ = some (.slice (some ⟨K.C, 0, none⟩) S.k S.k) ∧ wr.frozen? ⟨K.B, 6, none⟩ = false := by
  have hb := h.blk
  unfold doO at hb
  exact ⟨by rw [cell_of_row _ _ _ _ 3 _ h.box]; rfl, by rw [cell_of_row _ _ _ _ 58 _ hb]; rfl, by rw [cell_of_row _ _ _ _ 58 _ hb]; rfl, frozen_of_row _ _ _ _ 58 h.blk⟩
/-- One row more, and it is laid into the store. -/
theorem PaI.push {N : Nat} {R : Nat → Nat → Bool} {wr : World} {v : Value} {m : Nat} (h : PaI w0 W K S N R wr v m) {W2 : World} {v2 : Value} (hT : TbG W2 (W.heap.size + 1) v2 (m + 1) N R) (hg : wr.grownBy W2 v.ownBlock) : PaI w0 W K S N R (W2.setCell ⟨K.B, 6, none⟩ v2) v2 (m + 1) := by
  obtain ⟨rows, h0, h1, h2⟩ := h.tb.ex
  have hs := h.size
  have hl := h.lt
  have hlo := h.lo
  have hz := h.bel.size
  have hv : ∀ b, v.ownBlock = some b → W.heap.size + 1 ≤ b := fun b hb => (ownsRow_block h1 b hb).1
  have key : ∀ b, b ≤ W.heap.size → W2.heap[b]? = wr.heap[b]? := fun b hb => hg.block b (by omega) fun e => by have := hv b e.symm; omega
  refine ⟨(h.bel.grown hg hz fun b hb => by have := hv b hb; omega).setCell (p := ⟨K.B, 6, none⟩) hlo _, by have := hg.size; simp; omega, fun b hb hn => ?_, ?_, ?_, hl, hlo, hT.set (p := ⟨K.B, 6, none⟩) (by show K.B < _; omega) _⟩
  · exact (Below.heap_setCell W2 ⟨K.B, 6, none⟩ v2 b hn).trans ((key b (by omega)).trans (h.rest b hb hn))
  · exact heap_setCell_same W2 K.B 6 _ 58 _ ((key _ (by omega)).trans h.blk)
  · exact (Below.heap_setCell W2 ⟨K.B, 6, none⟩ v2 _ (by show W.heap.size ≠ K.B; omega)).trans ((key _ (by omega)).trans h.box)
theorem PaI.start (h : DoR w0 W K S) (N : Nat) (R : Nat → Nat → Bool) : PaI w0 W K S N R (((W.alloc (.cells #[.int .i64 (S.n : Int)] 3)).setCell ⟨K.B, 5, none⟩ (.bool true)).setCell ⟨K.B, 6, none⟩ (.slice none 0 0)) (.slice none 0 0) 0 := by
  have hB := h.facts .B trivial
  have hl := h.ltB
  have hbz := h.bel.size
  have e0 : (W.alloc (.cells #[.int .i64 (S.n : Int)] 3)).heap[K.B]? = some (doO K S) := (Below.heap_alloc W _ _ hl).trans hB.1
  have e1 := heap_setCell_same (W.alloc (.cells #[.int .i64 (S.n : Int)] 3)) K.B 5 _ 58 (.bool true) e0
  have e2 := heap_setCell_same _ K.B 6 _ 58 (.slice none 0 0) e1
  refine ⟨((belA h.bel _).setCell (p := ⟨K.B, 5, none⟩) hB.2 _).setCell (p := ⟨K.B, 6, none⟩) hB.2 _, by simp, fun b hb hn => ?_, e2, ?_, hl, hB.2, TbG.nil _ _ _ _⟩
  · rw [Below.heap_setCell _ ⟨K.B, 6, none⟩ _ b hn, Below.heap_setCell _ ⟨K.B, 5, none⟩ _ b hn]
    exact Below.heap_alloc W _ _ hb
  · rw [Below.heap_setCell _ ⟨K.B, 6, none⟩ _ _ (by show W.heap.size ≠ K.B; omega), Below.heap_setCell _ ⟨K.B, 5, none⟩ _ _ (by show W.heap.size ≠ K.B; omega)]
    exact heap_alloc_new W _
set_option maxRecDepth 100000 in
set_option maxHeartbeats 8000000 in
theorem partD_any (h : DoR w0 W K S) (hp : DoPl K S) (hn1 : 1 ≤ S.n) (hn7 : S.n ≤ 7) (hk8 : S.k ≤ 8) (r : Nat → Nat → Bool) (l : Value) (hl : LnkT W l (tabM S.n S.n r)) :
    Calls Tryz.prog 37 #[.pointer (some ⟨K.B, 0, none⟩), .bool false, l] W fun e w' => e = .returned (.int .i64 0) ∧ DoTold 0 w0 K S W { S with links := fun a b => openL true (tabM (S.n + S.k) (S.n + S.k) fun i j => r (asN S.n i) (asN S.n j)) a b } w' := by
  obtain ⟨i0, hi, hz0, hz1, hz2⟩ := info_parts' infoB
  obtain ⟨i1, hi', hz0', hz1', hz2'⟩ := info_parts' info46
  obtain ⟨g, off, cap, e0, _⟩ := LnkS.tab (n := S.n) (r := r) hl (show 0 < S.n by omega)
  have HLk : Hid (∀ Z : World, (∀ b, b < W.heap.size → b ≠ K.B → Z.heap[b]? = W.heap[b]?) → LnkT Z l (tabM S.n S.n r)) := fun Z hZ => hl.keep fun b hb => hZ b hb.lt fun e => h.ltg hb (h.at_own (p := .B) trivial (by rw [e]; rfl))
  subst e0
  have HP := hideIt hp
  obtain ⟨N, hN⟩ : ∃ N, S.n + S.k = N := ⟨_, rfl⟩
  have hN15 : 1 ≤ N ∧ N ≤ 15 := by omega
  have hw : IntKind.i64.wrap ((S.n : Int) + (S.k : Int)) = (N : Int) := by rw [← hN]; exact IntWalk.i64_in _ (by omega)
  have HW := hideIt hw
  have c0 := h.cells.1.1
  have hBl := h.ltB
  have hfz5 := h.fzB 5
  have hfz6 := h.fzB 6
  have c5 := h.cells.2.1.1
  have c6 := h.cells.2.1.2.1
  have c10 := h.cells.2.2.2.2.1
  have HFin : Hid (∀ (wr : World) (lv : Value) (R : Nat → Nat → Bool), R = (fun i j => r (asN S.n i) (asN S.n j)) → PaI w0 W K S N R wr lv N → DoTold 0 w0 K S W { S with links := fun a b => openL true (tabM (S.n + S.k) (S.n + S.k) fun i j => r (asN S.n i) (asN S.n j)) a b } wr) := fun wr lv R hR hI => by
    subst hR
    have hr := h.relink (W' := wr) (cut := true) (lv := lv) (LM := tabM N N fun i j => r (asN S.n i) (asN S.n j)) hI.bel (Nat.le_of_lt hI.size) hI.rest hI.blk (fun _ => hI.tb.links)
    refine ⟨_, hr.1.cast _ _ _, ⟨hp.ms, hp.wh, hp.hs, hp.fw, fun a b => ?_⟩, Nat.le_refl _, hr.2⟩
    rw [hN]
  have HI0 := hideIt (PaI.start h N fun i j => r (asN S.n i) (asN S.n j))
  have HAs : Hid (∀ (Z : World) (i : Nat), Z.cell? ⟨W.heap.size, 0, none⟩ = some (.int .i64 (S.n : Int)) → i ≤ 1000 → Calls Tryz.prog 74 #[.int .i64 (i : Int), .pointer (some ⟨W.heap.size, 0, none⟩)] Z fun e w' => e = .returned (.int .i64 ((asN S.n i : Nat) : Int)) ∧ w' = Z) := fun Z i hZ hi => part1_any S.n i hn1 hn7 hi _ Z hZ
  have HLt : Hid (∀ i, asN S.n i < S.n) := fun i => asN_lt hn1
  clear h hp hl hN
  rw [World.setCell_alloc_past _ _ _ _ hBl, World.setCell_alloc_past _ _ _ _ (by simpa using hBl)] at HI0
  go_enter Tryz.func37, Tryz.ntmps37
  go_upto_region 9 with fail
  obtain ⟨k0, k6, k10, kf⟩ := HI0.out.cells
  clear c0 hfz5 hfz6 c5 c6 c10 hBl
  generalize ((W.setCell ⟨K.B, 5, none⟩ (.bool true)).setCell ⟨K.B, 6, none⟩ (.slice none 0 0)).alloc (.cells #[.int .i64 (S.n : Int)] 3) = V at HI0 k0 k6 k10 kf ⊢
  have HI1 := hideIt (HI0.out.below (Below.refl _ V).drew)
  have HR : Hid (∀ i j, (fun i j => r (asN S.n i) (asN S.n j)) i j = r (asN S.n i) (asN S.n j)) := fun _ _ => rfl
  have HRe : Hid ((fun i j => r (asN S.n i) (asN S.n j)) = (fun i j => r (asN S.n i) (asN S.n j))) := rfl
  generalize hR0 : (fun i j => r (asN S.n i) (asN S.n j)) = R at HI0 HI1 HR HRe
  have HRf := hideIt hR0
  clear hR0 HRe
  go_region
  clear HI0 k0 k6 k10 kf hw
  go_wp2
  generalize V.drew = V1 at HI1 ⊢
  go_loopw [44] (fun v wr => ∃ (m : Nat) (lv : Value), m ≤ N ∧ v = .int .i64 m ∧ PaI w0 W K S N R wr lv m) (fun v _ => N - (intOf v).toNat)
  case atStart => exact ⟨0, _, Nat.zero_le _, rfl, HI1.out⟩
  case round =>
    clear HI1 V1
    obtain ⟨m, lv, hm, rfl, hI⟩ := hrel
    have HI := hideIt hI
    obtain ⟨k0, k6, k10, kf⟩ := hI.cells
    have hsW := hI.size
    have hltK := hI.lt
    clear hI
    by_cases hmn : m < N
    · have hmn' : (m : Int) < (N : Int) := by omega
      have hw : IntKind.i64.wrap ((S.n : Int) + (S.k : Int)) = (N : Int) := HW.out
      go_upto_region 13 with fail
      go_region
      clear k6 k10 kf hw
      have HJ := hideIt (HI.out.below (Below.refl _ wr).drew)
      clear HI k0 hsW
      go_wp2
      generalize wr.drew = wq at HJ ⊢
      have hsq := HJ.out.size
      go_loopw [10, 54] (fun rv v wz => ∃ k : Nat, k ≤ N ∧ v = .int .i64 k ∧ wz.ownsRow wq.heap.size 4 1 rv k (bitR k (R m)) ∧ Below wq.heap.size wq wz) (fun _ v _ => N - (intOf v).toNat)
      case atStart => exact ⟨0, Nat.zero_le _, rfl, World.ownsRow_nil _ _ _ _, Below.refl _ _⟩
      case round =>
        obtain ⟨k, hk, rfl, hown, hbz⟩ := hrel
        have HO := hideIt hown
        have HJz := hideIt (HJ.out.below hbz)
        have HZ := hideIt hbz
        have hszz := hbz.size
        obtain ⟨ra, rc, hrv⟩ := ownsRow_slice hown
        subst hrv
        clear hown hbz
        by_cases hkn : k < N
        · have hkn' : (k : Int) < (N : Int) := by omega
          obtain ⟨k0, _⟩ := HJz.out.cells
          have HA1 := hideIt (HAs.out wr m k0 (by omega))
          have HA2 := hideIt (HAs.out wr k k0 (by omega))
          have HB1 := HA1
          have HB2 := HA2
          have hla := HLt.out m
          have hlb := HLt.out k
          obtain ⟨g', off', cap', eg, rg, ro, rc', b1, b2⟩ := LnkS.tab (n := S.n) (r := r) (HLk.out wr HJz.out.rest) hla
          cases eg
          have b3 := b2 _ hlb
          have HSu : Hid (bitR (k + 1) (R m) = bitR k (R m) ++ [.bool (R m k)]) := bitR_succ k (R m)
          have hRx := HR.out m k
          rw [← hRx] at b3
          generalize R m k = x at b3 HSu
          generalize hia : asN S.n m = ia at *
          generalize hib : asN S.n k = ib at *
          have hia' : (ia : Int) < (S.n : Int) := by omega
          have hib' : (ib : Int) < (S.n : Int) := by omega
          clear k0 b2 hRx
          clear HJz HA1 HA2 hltK hsq
          go_wp2_with fail
          refine HB1.out.mono ?_
          rintro e wr ⟨rfl, rfl⟩
          go_wp2_with fail
          refine HB2.out.mono ?_
          rintro e wr ⟨rfl, rfl⟩
          clear HB1 HB2
          go_wp2_with (at_builtin; refine wpList_append_own _ rfl _ _ 95 rfl wq.heap.size 4 i0 _ 1 1 Tryz.underlying95 hi hz0 hz1 hz2 rfl (by decide) _ _ _ rfl (HO.out.alloc _) ⟨wr.heap.size, 0, none⟩ 1 1 [.bool x] rfl rfl ?c1 ?c2 ?c3 ?c4 ?c5 ?_)
          case c1 => intro j u hj; exact new_atX (by simp) (by simpa using hj)
          case c2 => intro u hu; simp at hu; subst hu; rfl
          case c3 => unfold maxLen; omega
          case c4 => omega
          case c5 => simp; omega
          intro v2 w4 ho4 hg4 _
          have R1 : Hid (w4.ownsRow wq.heap.size 4 1 v2 (k + 1) (bitR (k + 1) (R m))) := by
            show w4.ownsRow wq.heap.size 4 1 v2 (k + 1) (bitR (k + 1) (R m))
            rw [HSu.out]; exact ho4
          have R2 : Hid (Below wq.heap.size wq w4) := (belA HZ.out _).grown hg4 (by simp; omega) (fun g hg => (HO.out.lt g hg).1)
          clear ho4 hg4 b1 b3
          go_wp2
          go_roundw
          case rel => exact ⟨k + 1, by omega, by go_num, R1.out, R2.out⟩
          case measure => simp [intOf]; omega
        · obtain rfl : k = N := by omega
          obtain ⟨la, lc, hls⟩ := HJz.out.tb.slice
          subst hls
          obtain ⟨rows, h0, h1, hpush⟩ := HJz.out.tb.rows (x := .slice ra k rc) (own_mono HO.out (by omega))
          have HPu := hideIt hpush
          have HR1 := hideIt h1
          obtain ⟨_, k6, _, kf⟩ := HJz.out.cells
          have hKl : K.B < wr.heap.size := by omega
          clear hpush h1 h0
          go_wp2_with (at_builtin; refine wpList_append_own _ rfl _ _ 48 rfl (W.heap.size + 1) 95 i1 _ 1 24 Tryz.underlying48 hi' hz0' hz1' hz2' rfl (by decide) _ _ _ rfl (HR1.out.alloc _) ⟨wr.heap.size, 0, none⟩ 1 1 [.slice ra k rc] rfl rfl ?c1 ?c2 ?c3 ?c4 ?c5 ?_)
          case c1 => intro j u hj; exact new_atX (by simp) (by simpa using hj)
          case c2 => intro u hu; simp at hu; subst hu; rfl
          case c3 => unfold maxLen; omega
          case c4 => omega
          case c5 => simp; omega
          intro v2 w4 ho4 hg4 _
          obtain ⟨a4, c4, hv4⟩ := ownsRow_slice ho4
          subst hv4
          have hgW := grown_pre (belA (Below.refl _ wr) _) hg4
          have HTb := HPu.out w4 _ ho4 hgW
          have R1 := hideIt (HJz.out.push HTb hgW)
          have e4 : w4.heap[K.B]? = wr.heap[K.B]? := hgW.block K.B hKl fun e => by have := (ownsRow_block HR1.out K.B e.symm).1; omega
          have hc4 := (World.cell?_of_block (a := ⟨K.B, 6, none⟩) e4).trans k6
          have hf4 := (World.frozen?_of_block (a := ⟨K.B, 6, none⟩) e4).trans kf
          clear hgW HTb e4 ho4 hg4 HPu HR1 k6 kf
          go_wp2
          go_roundw
          case rel => exact ⟨m + 1, _, by omega, by go_num, R1.out⟩
          case measure => simp [intOf]; omega
    · obtain rfl : m = N := by omega
      have HX := hideIt (HFin.out wr lv R HRf.out.symm HI.out)
      clear k0 k6 k10 kf HI
      go_wp2
      go_ret
      exact ⟨rfl, HX.out⟩
end
end Go.Proofs.YtncnojgemmcplaaGreatDoor.St.Dc
