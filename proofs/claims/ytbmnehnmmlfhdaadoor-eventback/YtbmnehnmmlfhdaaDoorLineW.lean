/-
  A line of Text: walked.
-/
import Derived.Test.YtbmnehnmmlfhdaaDoorShelf
import Derived.Test.YtbmnehnmmlfhdaaDoorTextP
import Derived.Test.YtbmnehnmmlfhdaaDoorEvOps
import Derived.Deep.RegionHeld3
import Derived.Deep.DrawnRows
namespace Go.Proofs.YtbmnehnmmlfhdaaDoor
open Go.RowKit

def strV (l : List UInt8) : Value := .string ⟨l.toArray⟩
def typeCells : Array Value := #[strV [], strV (typeN 1), strV (typeN 2), strV (typeN 3), strV (typeN 4)]
def kindCells : Array Value := #[strV [], strV (kindN 1), strV (kindN 2), strV (kindN 3), strV (kindN 4), strV (kindN 5), strV (kindN 6), strV (kindN 7), strV (kindN 8), strV (kindN 9), strV (kindN 10), strV (kindN 11), strV (kindN 12)]

set_option maxRecDepth 100000 in
set_option maxHeartbeats 400000 in
theorem typeNames_any (w : World) : Calls Tryd.prog 20 #[] w fun e w' => e = .returned (.slice (some ⟨w.heap.size, 0, none⟩) 5 5) ∧ w' = w.alloc (.cells typeCells 9) := by
  go_enter Tryd.func20, Tryd.ntmps20
  go_wp2
  go_ret
  exact ⟨rfl, rfl⟩

set_option maxRecDepth 100000 in
set_option maxHeartbeats 400000 in
theorem kindNames_any (w : World) : Calls Tryd.prog 21 #[] w fun e w' => e = .returned (.slice (some ⟨w.heap.size, 0, none⟩) 13 13) ∧ w' = w.alloc (.cells kindCells 9) := by
  go_enter Tryd.func21, Tryd.ntmps21
  go_wp2
  go_ret
  exact ⟨rfl, rfl⟩

def Pow (w : World) : Prop := Lib.TabIs Tryd.prog w "internal/strconv.uint64pow10" .u64 Lib.pow10Tab

theorem pow_named : ∃ g, Tryd.prog.globalNamed "internal/strconv.uint64pow10" = some g ∧ g < 2 := ⟨1, by kernel_rfl, by decide⟩
theorem Pow.below {w w' : World} {n : Nat} (h : Pow w) (hb : Below n w w') (hn : 2 ≤ n) : Pow w' := by
  obtain ⟨g, hg, hlt⟩ := pow_named
  have e : w'.heap[g]? = w.heap[g]? := hb.block g (by omega)
  unfold Pow Lib.TabIs World.var? at h ⊢
  rw [hg] at h ⊢
  simp only [Option.bind_some] at h ⊢
  rw [e]; exact h

theorem type_cell {t : Int} (h0 : 1 ≤ t) (h1 : t ≤ 4) : typeCells[t.toNat]? = some (strV (typeN t)) := by
  have : t = 1 ∨ t = 2 ∨ t = 3 ∨ t = 4 := by omega
  rcases this with rfl | rfl | rfl | rfl <;> rfl
theorem kind_cell {t : Int} (h0 : 1 ≤ t) (h1 : t ≤ 12) : kindCells[t.toNat]? = some (strV (kindN t)) := by
  have : t = 1 ∨ t = 2 ∨ t = 3 ∨ t = 4 ∨ t = 5 ∨ t = 6 ∨ t = 7 ∨ t = 8 ∨ t = 9 ∨ t = 10 ∨ t = 11 ∨ t = 12 := by omega
  rcases this with rfl | rfl | rfl | rfl | rfl | rfl | rfl | rfl | rfl | rfl | rfl | rfl <;> rfl

theorem itoa_call (n : Int) (h0 : -9223372036854775808 ≤ n) (h1 : n ≤ 9223372036854775807) (w : World) (hp : Pow w) : Calls Tryd.prog 19 #[.int .i64 n] w fun e w' => e = .returned (.string ⟨(Lib.itoa n).toArray⟩) ∧ Below w.heap.size w w' := by
  refine (sh_strconv_Itoa n h0 h1 w hp).mono ?_
  rintro e w' ⟨rfl, k, os, rfl⟩
  refine ⟨rfl, rfl, rfl, rfl, by simp [Go.Sort.grow, World.drewN], fun k hk => ?_⟩
  simp only [Go.Sort.grow, World.drewN]
  rw [Array.getElem?_append_left hk]

theorem cell_up {w : World} {g j : Nat} {x : Value} (h : w.cell? ⟨g, j, none⟩ = some x) (o : Obj) : (w.alloc o).cell? ⟨g, j, none⟩ = some x := (World.grownBy_alloc w o none).cell h (by simp)
theorem cell9 (w : World) (cs : Array Value) (i : Nat) : (w.alloc (.cells cs 9)).cell? ⟨w.heap.size, i, none⟩ = cs[i]? := cell_of_row _ _ _ _ _ _ (heap_alloc_new w _)

/-- A stronger condition may be held from here on. -/
theorem wpAnyH_more {P : Program} {md : Region.Mode} {ops : Array Oper} {Q : Exit → Act → World → Prop} {S S' : World → Prop} (hS : ∀ w, S' w → S w) : ∀ (fuel : Nat) (listed : Array Bool) (a : Act) (w : World), wpAnyH P md ops Q S' fuel listed a w → wpAnyH P md ops Q S fuel listed a w
  | 0, _, _, _, h => h
  | fuel + 1, _, _, _, h => ⟨h.1, fun i hi => wpOp_mono (fun a' w' h' => ⟨hS w' h'.1, wpAnyH_more hS fuel _ a' w' h'.2⟩) (h.2 i hi)⟩

theorem info9 : (Tryd.prog.info? 9).map (fun i => (i.zero, i.size, i.bytes)) = some (some (.string ⟨#[]⟩), 1, 16) := by kernel_rfl

def wordVs (e : Ev) : List Value := (wordsOf e).map strV

theorem digits_len : ∀ (k u : Nat), u < 10 ^ (k + 1) → (Lib.decDigits u).length ≤ k + 1
  | 0, u, h => by rw [Lib.decDigits_one (by simpa using h)]; simp
  | k + 1, u, h => by
    by_cases h1 : u < 10
    · rw [Lib.decDigits_one h1]; simp
    · rw [Lib.decDigits, dif_neg h1, List.length_append]
      have := digits_len k (u / 10) (by rw [Nat.div_lt_iff_lt_mul (by omega)]; rw [Nat.pow_succ] at h; exact h)
      simp only [List.length_singleton]; omega
theorem itoa_len (n : Int) (h : -1000000 ≤ n ∧ n ≤ 1000000) : (Lib.itoa n).length ≤ 8 := by
  unfold Lib.itoa
  split
  · have := digits_len 6 n.natAbs (by omega)
    simp only [List.length_cons]; omega
  · have := digits_len 6 n.toNat (by omega)
    omega

theorem typeN_len {n : Int} (h0 : 1 ≤ n) (h1 : n ≤ 4) : (typeN n).length ≤ 6 := by
  have : n = 1 ∨ n = 2 ∨ n = 3 ∨ n = 4 := by omega
  rcases this with rfl | rfl | rfl | rfl <;> decide
theorem kindN_len {n : Int} (h0 : 1 ≤ n) (h1 : n ≤ 12) : (kindN n).length ≤ 6 := by
  have : n = 1 ∨ n = 2 ∨ n = 3 ∨ n = 4 ∨ n = 5 ∨ n = 6 ∨ n = 7 ∨ n = 8 ∨ n = 9 ∨ n = 10 ∨ n = 11 ∨ n = 12 := by omega
  rcases this with rfl | rfl | rfl | rfl | rfl | rfl | rfl | rfl | rfl | rfl | rfl | rfl <;> decide

theorem own_below {w w1 : World} {B t sz n : Nat} {v : Value} {xs : List Value} (h : w.ownsRow B t sz v n xs) (hb : Below w.heap.size w w1) : w1.ownsRow B t sz v n xs := by
  refine ⟨h.1, h.2.imp id ?_⟩
  rintro ⟨g, cap, cur, hv, hB, hg, r⟩
  exact ⟨g, cap, cur, hv, hB, (hb.block g (Array.getElem?_eq_some_iff.1 hg).1).trans hg, r⟩

attribute [local go_sem ↓] Go.wp_at_zero Go.wp_at_succ

/-- An event whose numbers are small. -/
def SmallE (e : Ev) : Prop := NamedE e ∧ (-1000000 ≤ e.p ∧ e.p ≤ 1000000) ∧ (-1000000 ≤ e.k ∧ e.k ≤ 1000000) ∧ (-1000000 ≤ e.a ∧ e.a ≤ 1000000) ∧ (-1000000 ≤ e.b ∧ e.b ≤ 1000000) ∧ (-1000000 ≤ e.r ∧ e.r ≤ 1000000)

theorem line_len (e : Ev) (h : SmallE e) : (lineB e).length ≤ 58 := by
  have l0 := itoa_len _ h.2.1
  have l1 := itoa_len _ h.2.2.1
  have l2 := itoa_len _ h.2.2.2.1
  have l3 := itoa_len _ h.2.2.2.2.1
  have l4 := itoa_len _ h.2.2.2.2.2
  have l5 := typeN_len h.1.1 h.1.2.1
  have l6 := kindN_len h.1.2.2.1 h.1.2.2.2
  simp only [lineB, wordsOf, join_two, Lib.join_one, List.length_append, List.length_cons]
  omega

set_option maxRecDepth 100000 in
set_option maxHeartbeats 4000000 in
theorem line_any (e : Ev) (w : World) (he : SmallE e) (hp : Pow w) (h9 : 2 ≤ w.heap.size) :
    Calls Tryd.prog 9 #[e.agg] w fun x w' => x = .returned (.string ⟨(lineB e).toArray⟩) ∧ Below w.heap.size w w' := by
  have HP := hideIt hp
  obtain ⟨⟨t1, t4, d1, d12⟩, p1, k1, a1, b1, r1⟩ := he
  have HT0 := hideIt (type_cell t1 t4)
  have HK0 := hideIt (kind_cell d1 d12)
  obtain ⟨tb, htb⟩ : ∃ tb : ByteArray, tb = ⟨(typeN e.t).toArray⟩ := ⟨_, rfl⟩
  obtain ⟨kb, hkb⟩ : ∃ kb : ByteArray, kb = ⟨(kindN e.d).toArray⟩ := ⟨_, rfl⟩
  have HT : Hid (typeCells[e.t.toNat]? = some (.string tb)) := by rw [htb]; exact HT0.out
  have HK : Hid (kindCells[e.d.toNat]? = some (.string kb)) := by rw [hkb]; exact HK0.out
  have HTB := hideIt htb
  have HKB := hideIt hkb
  clear htb hkb HT0 HK0
  have HI := hideIt (fun (n : Int) (h : -1000000 ≤ n ∧ n ≤ 1000000) (W : World) (hb : Below w.heap.size w W) => itoa_call n (by omega) (by omega) W (HP.out.below hb h9))
  have HBX := hideIt (belA (Below.refl w.heap.size w) (.cells #[.int .i64 e.p, .int .i64 e.t, .int .i64 e.k, .int .i64 e.d, .int .i64 e.a, .int .i64 e.b, .int .i64 e.r] 31))
  obtain ⟨W0, hW0⟩ : ∃ W0, W0 = w.alloc (.cells #[.int .i64 e.p, .int .i64 e.t, .int .i64 e.k, .int .i64 e.d, .int .i64 e.a, .int .i64 e.b, .int .i64 e.r] 31) := ⟨_, rfl⟩
  have x0 : W0.cell? ⟨w.heap.size, 0, none⟩ = some (.int .i64 e.p) := by rw [hW0]; simp
  have x1 : W0.cell? ⟨w.heap.size, 1, none⟩ = some (.int .i64 e.t) := by rw [hW0]; simp
  have x2 : W0.cell? ⟨w.heap.size, 2, none⟩ = some (.int .i64 e.k) := by rw [hW0]; simp
  have x3 : W0.cell? ⟨w.heap.size, 3, none⟩ = some (.int .i64 e.d) := by rw [hW0]; simp
  have x4 : W0.cell? ⟨w.heap.size, 4, none⟩ = some (.int .i64 e.a) := by rw [hW0]; simp
  have x5 : W0.cell? ⟨w.heap.size, 5, none⟩ = some (.int .i64 e.b) := by rw [hW0]; simp
  have x6 : W0.cell? ⟨w.heap.size, 6, none⟩ = some (.int .i64 e.r) := by rw [hW0]; simp
  have hs0 : W0.heap.size = w.heap.size + 1 := by rw [hW0]; simp
  rw [← hW0] at HBX
  have HX : Hid (∀ W, Below W0.heap.size W0 W → W.cell? ⟨w.heap.size, 0, none⟩ = some (.int .i64 e.p) ∧ W.cell? ⟨w.heap.size, 1, none⟩ = some (.int .i64 e.t) ∧ W.cell? ⟨w.heap.size, 2, none⟩ = some (.int .i64 e.k) ∧ W.cell? ⟨w.heap.size, 3, none⟩ = some (.int .i64 e.d) ∧ W.cell? ⟨w.heap.size, 4, none⟩ = some (.int .i64 e.a) ∧ W.cell? ⟨w.heap.size, 5, none⟩ = some (.int .i64 e.b) ∧ W.cell? ⟨w.heap.size, 6, none⟩ = some (.int .i64 e.r)) := fun W hW => by
    have hlt : w.heap.size < W0.heap.size := by omega
    exact ⟨(hW.cell hlt).trans x0, (hW.cell hlt).trans x1, (hW.cell hlt).trans x2, (hW.cell hlt).trans x3, (hW.cell hlt).trans x4, (hW.cell hlt).trans x5, (hW.cell hlt).trans x6⟩
  have HW0 := hideIt hW0
  unfold Ev.agg
  clear hp hW0
  go_enter Tryd.func9, Tryd.ntmps9
  go_wp2_with fail
  rw [← HW0.out]
  have ht0 : (0 : Int) ≤ e.t := by omega
  have ht5 : e.t < 5 := by omega
  have hd0 : (0 : Int) ≤ e.d := by omega
  have hd13 : e.d < 13 := by omega
  refine wp_region_held_drew (S := fun w' => w'.cell? ⟨w.heap.size, 0, none⟩ = some (.int .i64 e.p) ∧ w'.cell? ⟨w.heap.size, 1, none⟩ = some (.int .i64 e.t) ∧ w'.cell? ⟨w.heap.size, 3, none⟩ = some (.int .i64 e.d)) (by kernel_rfl) ⟨(by simpa using x0), (by simpa using x1), (by simpa using x3)⟩ (fun hHeld => ?_)
  refine wpAnyH_take (i := 0) (v := ?_) rfl (by kernel_rfl) (by kernel_rfl) (by kernel_rfl) (fun _ _ _ h => h) (Or.inl ⟨by rfl, ?_⟩) (by assumption) ?_
  rotate_left 1
  · intro w ⟨s0, s1, s2⟩
    go_simp
    all_goals with_reducible rfl
  simp only [Act.put, List.setIfInBounds_toArray, List.set_cons_zero, List.set_cons_succ, List.getElem_toArray, List.getElem_cons_zero]
  refine wpAnyH_take (i := 1) (v := ?_) rfl (by kernel_rfl) (by kernel_rfl) (by kernel_rfl) (fun _ _ _ h => h) (Or.inl ⟨by rfl, ?_⟩) (by assumption) ?_
  rotate_left 1
  · intro w ⟨s0, s1, s2⟩
    go_simp
    all_goals with_reducible rfl
  simp only [Act.put, List.setIfInBounds_toArray, List.set_cons_zero, List.set_cons_succ, List.getElem_toArray, List.getElem_cons_zero, List.getElem_cons_succ]
  refine wpAnyH_take (i := 4) (v := ?_) rfl (by kernel_rfl) (by kernel_rfl) (by kernel_rfl) (fun _ _ _ h => h) (Or.inl ⟨by rfl, ?_⟩) (by assumption) ?_
  rotate_left 1
  · intro w ⟨s0, s1, s2⟩
    go_simp
    all_goals with_reducible rfl
  simp only [Act.put, List.setIfInBounds_toArray, List.set_cons_zero, List.set_cons_succ, List.getElem_toArray, List.getElem_cons_zero, List.getElem_cons_succ]
  refine wpAnyH_take (i := 5) (v := ?_) rfl (by kernel_rfl) (by kernel_rfl) (by kernel_rfl) (fun _ _ _ h => h) (Or.inl ⟨by rfl, ?_⟩) (by assumption) ?_
  rotate_left 1
  · intro w ⟨s0, s1, s2⟩
    go_simp
    all_goals with_reducible rfl
  simp only [Act.put, List.setIfInBounds_toArray, List.set_cons_zero, List.set_cons_succ, List.getElem_toArray, List.getElem_cons_zero, List.getElem_cons_succ]
  refine wpAnyH_take (i := 9) (v := ?_) rfl (by kernel_rfl) (by kernel_rfl) (by kernel_rfl) (fun _ _ _ h => h) (Or.inl ⟨by rfl, ?_⟩) (by assumption) ?_
  rotate_left 1
  · intro w ⟨s0, s1, s2⟩
    go_simp
    all_goals with_reducible rfl
  simp only [Act.put, List.setIfInBounds_toArray, List.set_cons_zero, List.set_cons_succ, List.getElem_toArray, List.getElem_cons_zero, List.getElem_cons_succ]
  refine wpAnyH_take (i := 10) (v := ?_) rfl (by kernel_rfl) (by kernel_rfl) (by kernel_rfl) (fun _ _ _ h => h) (Or.inl ⟨by rfl, ?_⟩) (by assumption) ?_
  rotate_left 1
  · intro w ⟨s0, s1, s2⟩
    go_simp
    all_goals with_reducible rfl
  simp only [Act.put, List.setIfInBounds_toArray, List.set_cons_zero, List.set_cons_succ, List.getElem_toArray, List.getElem_cons_zero, List.getElem_cons_succ]
  refine wpAnyH_ready (rs := [2]) (by kernel_rfl) (by simp) (AllReadyH.cons rfl (fun K hK => ?_) AllReadyH.nil)
  go_simp
  refine (HI.out _ p1 _ (belJ HBX.out (Below.drew (Below.refl _ _)))).mono ?_
  rintro x w1 ⟨rfl, hb1⟩
  have HB1 : Hid (Below W0.heap.size W0 w1) := (Below.drew (Below.refl W0.heap.size W0)).trans hb1
  clear hb1
  refine hK.out _ _ ?_ (fun hHeld => ?_)
  · exact ⟨(HX.out w1 HB1.out).1, (HX.out w1 HB1.out).2.1, (HX.out w1 HB1.out).2.2.2.1⟩
  clear hK K
  refine wpAnyH_ready (rs := [3]) (by kernel_rfl) (by simp) (AllReadyH.cons rfl (fun K hK => ?_) AllReadyH.nil)
  go_simp
  refine (typeNames_any _).mono ?_
  rintro x w2 ⟨rfl, hw2⟩
  have HB2 : Hid (Below W0.heap.size W0 w2) := (by rw [hw2]; exact HB1.out.alloc HB1.out.size _)
  have ct : w2.cell? ⟨w1.heap.size, e.t.toNat, none⟩ = some (.string tb) := (by rw [hw2, cell9]; exact HT.out)
  have hlt : w1.heap.size < w2.heap.size := (by rw [hw2]; simp)
  clear hw2
  refine hK.out _ _ ?_ (fun hHeld => ?_)
  · exact ⟨(HX.out w2 HB2.out).1, (HX.out w2 HB2.out).2.1, (HX.out w2 HB2.out).2.2.2.1⟩
  clear hK K
  refine wpAnyH_more (S' := fun w' => (w'.cell? ⟨w.heap.size, 0, none⟩ = some (.int .i64 e.p) ∧ w'.cell? ⟨w.heap.size, 1, none⟩ = some (.int .i64 e.t) ∧ w'.cell? ⟨w.heap.size, 3, none⟩ = some (.int .i64 e.d)) ∧ w'.cell? ⟨w1.heap.size, e.t.toNat, none⟩ = some (.string tb)) (fun _ h => h.1) _ _ _ _ ?_
  have hHeld2 := And.intro hHeld ct
  clear hHeld
  refine wpAnyH_take (i := 6) (v := ?_) rfl (by kernel_rfl) (by kernel_rfl) (by kernel_rfl) (fun _ _ _ h => h) (Or.inl ⟨by rfl, ?_⟩) (by assumption) ?_
  rotate_left 1
  · intro w ⟨⟨s0, s1, s2⟩, s3⟩
    go_simp
    all_goals with_reducible rfl
  simp only [Act.put, List.setIfInBounds_toArray, List.set_cons_zero, List.set_cons_succ, List.getElem_toArray, List.getElem_cons_zero, List.getElem_cons_succ]
  refine wpAnyH_take (i := 7) (v := ?_) rfl (by kernel_rfl) (by kernel_rfl) (by kernel_rfl) (fun _ _ _ h => h) (Or.inl ⟨by rfl, ?_⟩) (by assumption) ?_
  rotate_left 1
  · intro w ⟨⟨s0, s1, s2⟩, s3⟩
    go_simp
    all_goals with_reducible rfl
  simp only [Act.put, List.setIfInBounds_toArray, List.set_cons_zero, List.set_cons_succ, List.getElem_toArray, List.getElem_cons_zero, List.getElem_cons_succ]
  refine wpAnyH_ready (rs := [8]) (by kernel_rfl) (by simp) (AllReadyH.cons rfl (fun K hK => ?_) AllReadyH.nil)
  go_simp
  refine (kindNames_any _).mono ?_
  rintro x w3 ⟨rfl, hw3⟩
  have HB3 : Hid (Below W0.heap.size W0 w3) := (by rw [hw3]; exact HB2.out.alloc HB2.out.size _)
  have ct3 : w3.cell? ⟨w1.heap.size, e.t.toNat, none⟩ = some (.string tb) := (by rw [hw3]; exact cell_up ct _)
  have ck : w3.cell? ⟨w2.heap.size, e.d.toNat, none⟩ = some (.string kb) := (by rw [hw3, cell9]; exact HK.out)
  clear hw3
  refine hK.out _ _ ?_ (fun hHeld => ?_)
  · exact ⟨⟨(HX.out w3 HB3.out).1, (HX.out w3 HB3.out).2.1, (HX.out w3 HB3.out).2.2.2.1⟩, ct3⟩
  clear hK K
  refine wpAnyH_more (S' := fun w' => ((w'.cell? ⟨w.heap.size, 0, none⟩ = some (.int .i64 e.p) ∧ w'.cell? ⟨w.heap.size, 1, none⟩ = some (.int .i64 e.t) ∧ w'.cell? ⟨w.heap.size, 3, none⟩ = some (.int .i64 e.d)) ∧ w'.cell? ⟨w1.heap.size, e.t.toNat, none⟩ = some (.string tb)) ∧ w'.cell? ⟨w2.heap.size, e.d.toNat, none⟩ = some (.string kb)) (fun _ h => h.1) _ _ _ _ ?_
  have hHeld3 := And.intro hHeld ck
  clear hHeld hHeld2
  refine wpAnyH_take (i := 11) (v := ?_) rfl (by kernel_rfl) (by kernel_rfl) (by kernel_rfl) (fun _ _ _ h => h) (Or.inl ⟨by rfl, ?_⟩) (by assumption) ?_
  rotate_left 1
  · intro w ⟨⟨⟨s0, s1, s2⟩, s3⟩, s4⟩
    go_simp
    all_goals with_reducible rfl
  simp only [Act.put, List.setIfInBounds_toArray, List.set_cons_zero, List.set_cons_succ, List.getElem_toArray, List.getElem_cons_zero, List.getElem_cons_succ]
  refine wpAnyH_take (i := 12) (v := ?_) rfl (by kernel_rfl) (by kernel_rfl) (by kernel_rfl) (fun _ _ _ h => h) (Or.inl ⟨by rfl, ?_⟩) (by assumption) ?_
  rotate_left 1
  · intro w ⟨⟨⟨s0, s1, s2⟩, s3⟩, s4⟩
    go_simp
    all_goals with_reducible rfl
  simp only [Act.put, List.setIfInBounds_toArray, List.set_cons_zero, List.set_cons_succ, List.getElem_toArray, List.getElem_cons_zero, List.getElem_cons_succ]
  refine wpAnyH_ready (rs := [13]) (by kernel_rfl) (by simp) (AllReadyH.cons rfl (fun K hK => ?_) AllReadyH.nil)
  go_simp
  refine hK.out _ _ ?_ (fun hHeld => ?_)
  · have HB4 := HB3.out.alloc HB3.out.size (.cells #[.string ⟨(Lib.itoa e.p).toArray⟩, .string tb, .string kb] 9)
    exact ⟨⟨⟨(HX.out _ HB4).1, (HX.out _ HB4).2.1, (HX.out _ HB4).2.2.2.1⟩, cell_up ct3 _⟩, cell_up ck _⟩
  clear hK K hHeld3
  refine wpAnyH_take (i := 14) (v := ?_) rfl (by kernel_rfl) (by kernel_rfl) (by kernel_rfl) (fun _ _ _ h => h) (Or.inl ⟨by rfl, ?_⟩) (by assumption) ?_
  rotate_left 1
  · intro w ⟨⟨⟨s0, s1, s2⟩, s3⟩, s4⟩
    go_simp
    all_goals with_reducible rfl
  simp only [Act.put, List.setIfInBounds_toArray, List.set_cons_zero, List.set_cons_succ, List.getElem_toArray, List.getElem_cons_zero, List.getElem_cons_succ]
  refine wpAnyH_done (by kernel_rfl) ?_ _
  clear hHeld
  have HB4 := hideIt (HB3.out.alloc HB3.out.size (.cells #[.string ⟨(Lib.itoa e.p).toArray⟩, .string tb, .string kb] 9))
  have HO : Hid ((w3.alloc (.cells #[.string ⟨(Lib.itoa e.p).toArray⟩, .string tb, .string kb] 9)).ownsRow w.heap.size 9 1 (.slice (some ⟨w3.heap.size, 0, none⟩) 3 3) 3 ((wordVs e).take 3)) := (by
    have h3 := (belJ HBX.out HB3.out).size
    refine ⟨rfl, .inr ⟨w3.heap.size, 3, #[.string ⟨(Lib.itoa e.p).toArray⟩, .string tb, .string kb], rfl, h3, heap_alloc_new _ _, by omega, by decide, rfl, ?_⟩⟩
    rw [HTB.out, HKB.out]; rfl)
  obtain ⟨W4, hW4⟩ : ∃ W4, W4 = w3.alloc (.cells #[.string ⟨(Lib.itoa e.p).toArray⟩, .string tb, .string kb] 9) := ⟨_, rfl⟩
  rw [← hW4] at HB4 HO
  rw [← hW4]
  obtain ⟨z0, z1, z2, z3, z4, z5, z6⟩ := HX.out W4 HB4.out
  clear ct ct3 ck hlt hW4 x0 x1 x2 x3 x4 x5 x6 HX HB1 HB2 HT HK HTB HKB z0 z1 z3
  generalize w3.heap.size = g3 at *
  go_wp2_with fail
  have HB5 := hideIt (belJ HBX.out HB4.out)
  clear z2 z4 z5 z6
  obtain ⟨i0, hi, hz0, hz1, hz2⟩ := info_parts info9
  go_loopw [3, 29] (fun v i wr => ∃ k : Nat, k ≤ 4 ∧ i = .int .i64 k ∧ wr.ownsRow w.heap.size 9 1 v (3 + k) ((wordVs e).take (3 + k)) ∧ Below w.heap.size w wr) (fun _ i _ => 4 - (intOf i).toNat)
  case atStart => exact ⟨0, Nat.zero_le _, rfl, HO.out, HB5.out⟩
  case round =>
    obtain ⟨k, hk, rfl, hown, hnx⟩ := hrel
    have HOW := hideIt hown
    have HNX := hideIt hnx
    clear hown hnx HO HB5 HB4 HB3
    have hk4 : k = 0 ∨ k = 1 ∨ k = 2 ∨ k = 3 ∨ k = 4 := by omega
    have j0 : ∀ w : World, (Instr.index 63 (.agg #[.int .i64 e.k, .int .i64 e.a, .int .i64 e.b, .int .i64 e.r]) (.int .i64 0)).run Tryd.prog w = .ok (.int .i64 e.k) w := fun _ => by kernel_rfl
    have j1 : ∀ w : World, (Instr.index 63 (.agg #[.int .i64 e.k, .int .i64 e.a, .int .i64 e.b, .int .i64 e.r]) (.int .i64 1)).run Tryd.prog w = .ok (.int .i64 e.a) w := fun _ => by kernel_rfl
    have j2 : ∀ w : World, (Instr.index 63 (.agg #[.int .i64 e.k, .int .i64 e.a, .int .i64 e.b, .int .i64 e.r]) (.int .i64 2)).run Tryd.prog w = .ok (.int .i64 e.b) w := fun _ => by kernel_rfl
    have j3 : ∀ w : World, (Instr.index 63 (.agg #[.int .i64 e.k, .int .i64 e.a, .int .i64 e.b, .int .i64 e.r]) (.int .i64 3)).run Tryd.prog w = .ok (.int .i64 e.r) w := fun _ => by kernel_rfl
    rcases hk4 with rfl | rfl | rfl | rfl | rfl
    · go_wp2_with (first
        | (go_at_call 19; refine (HI.out e.k k1 _ HNX.out).mono ?_; rintro x w5 ⟨rfl, hb5⟩; have HO5 := hideIt (own_below HOW.out hb5); have HN5 := hideIt (belJ HNX.out hb5); clear hb5)
        | (at_builtin; refine wpList_append_own _ rfl _ _ 55 rfl w.heap.size 9 i0 _ 1 16 Tryd.underlying55 hi hz0 hz1 hz2 rfl (by decide) _ _ _ rfl (HO5.out.alloc _) ⟨w5.heap.size, 0, none⟩ 1 1 [.string ⟨(Lib.itoa e.k).toArray⟩] rfl rfl ?c1 ?c2 ?c3 ?c4 ?c5 ?_))
      case c1 =>
        intro j u hj
        match j, hj with
        | 0, hj => simp at hj; subst hj; simp [Addr.add]
        | n + 1, hj => simp at hj
      case c2 => intro u hu; simp at hu; subst hu; rfl
      case c3 => decide
      case c4 => decide
      case c5 => simp; have := HN5.out.size; omega
      intro v' w6 hown' hgrow _
      have R1 : Hid (w6.ownsRow w.heap.size 9 1 v' (3 + 1) ((wordVs e).take (3 + 1))) := hown'
      have R2 : Hid (Below w.heap.size w w6) := (belA HN5.out _).grown hgrow (by simp; have := HN5.out.size; omega) (fun g hg => (HO5.out.lt g hg).1)
      clear hown' hgrow
      go_wp2
      go_roundw
      case rel => exact ⟨1, by omega, by go_num, R1.out, R2.out⟩
      case measure => simp [intOf]
    · go_wp2_with (first
        | (go_at_call 19; refine (HI.out e.a a1 _ HNX.out).mono ?_; rintro x w5 ⟨rfl, hb5⟩; have HO5 := hideIt (own_below HOW.out hb5); have HN5 := hideIt (belJ HNX.out hb5); clear hb5)
        | (at_builtin; refine wpList_append_own _ rfl _ _ 55 rfl w.heap.size 9 i0 _ 1 16 Tryd.underlying55 hi hz0 hz1 hz2 rfl (by decide) _ _ _ rfl (HO5.out.alloc _) ⟨w5.heap.size, 0, none⟩ 1 1 [.string ⟨(Lib.itoa e.a).toArray⟩] rfl rfl ?c1 ?c2 ?c3 ?c4 ?c5 ?_))
      case c1 =>
        intro j u hj
        match j, hj with
        | 0, hj => simp at hj; subst hj; simp [Addr.add]
        | n + 1, hj => simp at hj
      case c2 => intro u hu; simp at hu; subst hu; rfl
      case c3 => decide
      case c4 => decide
      case c5 => simp; have := HN5.out.size; omega
      intro v' w6 hown' hgrow _
      have R1 : Hid (w6.ownsRow w.heap.size 9 1 v' (3 + 2) ((wordVs e).take (3 + 2))) := hown'
      have R2 : Hid (Below w.heap.size w w6) := (belA HN5.out _).grown hgrow (by simp; have := HN5.out.size; omega) (fun g hg => (HO5.out.lt g hg).1)
      clear hown' hgrow
      go_wp2
      go_roundw
      case rel => exact ⟨2, by omega, by go_num, R1.out, R2.out⟩
      case measure => simp [intOf]
    · go_wp2_with (first
        | (go_at_call 19; refine (HI.out e.b b1 _ HNX.out).mono ?_; rintro x w5 ⟨rfl, hb5⟩; have HO5 := hideIt (own_below HOW.out hb5); have HN5 := hideIt (belJ HNX.out hb5); clear hb5)
        | (at_builtin; refine wpList_append_own _ rfl _ _ 55 rfl w.heap.size 9 i0 _ 1 16 Tryd.underlying55 hi hz0 hz1 hz2 rfl (by decide) _ _ _ rfl (HO5.out.alloc _) ⟨w5.heap.size, 0, none⟩ 1 1 [.string ⟨(Lib.itoa e.b).toArray⟩] rfl rfl ?c1 ?c2 ?c3 ?c4 ?c5 ?_))
      case c1 =>
        intro j u hj
        match j, hj with
        | 0, hj => simp at hj; subst hj; simp [Addr.add]
        | n + 1, hj => simp at hj
      case c2 => intro u hu; simp at hu; subst hu; rfl
      case c3 => decide
      case c4 => decide
      case c5 => simp; have := HN5.out.size; omega
      intro v' w6 hown' hgrow _
      have R1 : Hid (w6.ownsRow w.heap.size 9 1 v' (3 + 3) ((wordVs e).take (3 + 3))) := hown'
      have R2 : Hid (Below w.heap.size w w6) := (belA HN5.out _).grown hgrow (by simp; have := HN5.out.size; omega) (fun g hg => (HO5.out.lt g hg).1)
      clear hown' hgrow
      go_wp2
      go_roundw
      case rel => exact ⟨3, by omega, by go_num, R1.out, R2.out⟩
      case measure => simp [intOf]
    · go_wp2_with (first
        | (go_at_call 19; refine (HI.out e.r r1 _ HNX.out).mono ?_; rintro x w5 ⟨rfl, hb5⟩; have HO5 := hideIt (own_below HOW.out hb5); have HN5 := hideIt (belJ HNX.out hb5); clear hb5)
        | (at_builtin; refine wpList_append_own _ rfl _ _ 55 rfl w.heap.size 9 i0 _ 1 16 Tryd.underlying55 hi hz0 hz1 hz2 rfl (by decide) _ _ _ rfl (HO5.out.alloc _) ⟨w5.heap.size, 0, none⟩ 1 1 [.string ⟨(Lib.itoa e.r).toArray⟩] rfl rfl ?c1 ?c2 ?c3 ?c4 ?c5 ?_))
      case c1 =>
        intro j u hj
        match j, hj with
        | 0, hj => simp at hj; subst hj; simp [Addr.add]
        | n + 1, hj => simp at hj
      case c2 => intro u hu; simp at hu; subst hu; rfl
      case c3 => decide
      case c4 => decide
      case c5 => simp; have := HN5.out.size; omega
      intro v' w6 hown' hgrow _
      have R1 : Hid (w6.ownsRow w.heap.size 9 1 v' (3 + 4) ((wordVs e).take (3 + 4))) := hown'
      have R2 : Hid (Below w.heap.size w w6) := (belA HN5.out _).grown hgrow (by simp; have := HN5.out.size; omega) (fun g hg => (HO5.out.lt g hg).1)
      clear hown' hgrow
      go_wp2
      go_roundw
      case rel => exact ⟨4, by omega, by go_num, R1.out, R2.out⟩
      case measure => simp [intOf]
    · obtain ⟨_, hv | ⟨g, cap, cur, hv, hB, hg, hn, hm, hs, ht⟩⟩ := HOW.out
      · exact absurd hv.2 (by omega)
      subst hv
      have hgl : g < wr.heap.size := (Array.getElem?_eq_some_iff.1 hg).1
      have hj := sh_strings_Join g 0 cap ((wordsOf e).map fun l => ⟨l.toArray⟩) ⟨#[32]⟩ wr (fun j x hx => by
        have hx2 : ((wordVs e).take (3 + 4))[j]? = some (.string x) := by
          rw [show (wordVs e).take (3 + 4) = wordVs e from rfl]
          rw [List.getElem?_map] at hx
          obtain ⟨l, hl, rfl⟩ := Option.map_eq_some_iff.1 hx
          rw [wordVs, List.getElem?_map, hl]; rfl
        rw [← ht] at hx2
        have hc : cur[j]? = some (.string x) := by
          rw [List.getElem?_take] at hx2
          split at hx2
          · rw [← Array.getElem?_toList]; exact hx2
          · cases hx2
        rw [Nat.zero_add, cell_of_row _ _ _ _ _ _ hg]; exact hc) hgl (by simp [wordsOf]) (by simpa [wordsOf] using hn) (by
        have e1 : List.map (fun x : ByteArray => x.data.toList) ((wordsOf e).map fun l => ⟨l.toArray⟩) = wordsOf e := by simp [Function.comp_def]
        rw [e1]
        have := line_len e ⟨⟨t1, t4, d1, d12⟩, p1, k1, a1, b1, r1⟩
        exact Nat.le_trans this (by omega))
      have HJ := hideIt hj
      clear hj hg ht
      go_wp2_with (go_at_call 22; refine HJ.out.mono ?_; rintro x w5 ⟨rfl, hb5⟩)
      go_ret
      refine ⟨?_, belJ HNX.out hb5⟩
      have : List.map ((fun x => x.data.toList) ∘ fun l => ({ data := l.toArray } : ByteArray)) (wordsOf e) = wordsOf e := by simp [Function.comp_def]
      rw [this]; rfl

end Go.Proofs.YtbmnehnmmlfhdaaDoor
