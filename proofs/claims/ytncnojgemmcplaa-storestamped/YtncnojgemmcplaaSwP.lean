/-
  The program's store, walked: Cut.
-/
import Derived.Test.YtncnojgemmcplaaSwO
import Derived.Test.YtncnojgemmcplaaSmPZ
namespace Go.Proofs.Ytncnojgemmcplaa
open Go.RowKit

theorem nilNqL (w : World) : (binOp .neq 53 (.slice none 0 0) (.slice none 0 0)).run Try.prog w = .ok (.bool false) w := by kernel_rfl
theorem nilNqLs (w : World) (a : Addr) (n c : Nat) : (binOp .neq 53 (.slice (some a) n c) (.slice none 0 0)).run Try.prog w = .ok (.bool true) w := by kernel_rfl
section
variable {w0 W W' : World} {K : StK} {P : Pst}
set_option maxRecDepth 100000 in
set_option maxHeartbeats 4000000 in
theorem cutS_nil (h : StoP w0 W K P) : Calls Try.prog 28 #[.pointer (some ⟨K.B, 0, none⟩), .slice none 0 0] W fun en W' => en = .returned (toldE 0) ∧ StTold w0 K P W (allP P) W' := by
  have HS : Hid (∀ Z, Calls Try.prog 43 #[.pointer (some ⟨K.B, 0, none⟩), .slice none 0 0] Z fun e w' => e = .returned (.slice none 0 0) ∧ w' = Z) := fun Z => spread_nil K.B Z
  have HC : Hid (∀ Z, Below W.heap.size W Z → Calls Try.prog 42 #[.pointer (some ⟨K.B, 5, none⟩), .slice none 0 0] Z fun e w' => e = .returned (.tuple #[]) ∧ CutQ K.B 5 (.slice none 0 0) Z w') := fun Z hZ => pcut_nil _ _ _ _ _ _ _ (h.below hZ).net ((h.below hZ).fzB 6)
  have HP := hideIt h
  have hnil := nilNqL W
  clear h
  go_enter Try.func28, Try.ntmps28
  go_upto_region 3 with fail
  refine wp_region_L (B := [6]) (S := fun _ => True) (T := fun Z => Below W.heap.size W Z) (by kernel_rfl) ⟨trivial, (Below.refl _ _).drew⟩ (fun hHeld => ?_)
  refine wpAnyL_takeS (i := 0) (v := ?_) rfl (by kernel_rfl) (by kernel_rfl) (by kernel_rfl) (by kernel_rfl) (fun _ _ _ h => h) (Or.inl ⟨by rfl, ?_⟩) (by assumption) ?_
  rotate_left 1
  · intro wz _
    go_simp
    all_goals with_reducible rfl
  simp only [Act.put, List.setIfInBounds_toArray, List.set_cons_zero, List.set_cons_succ, List.getElem_toArray, List.getElem_cons_zero]
  refine wpAnyL_takeS (i := 1) (v := ?_) rfl (by kernel_rfl) (by kernel_rfl) (by kernel_rfl) (by kernel_rfl) (fun _ _ _ h => h) (Or.inl ⟨by rfl, ?_⟩) (by assumption) ?_
  rotate_left 1
  · intro wz _
    go_simp
    all_goals with_reducible rfl
  simp only [Act.put, List.setIfInBounds_toArray, List.set_cons_zero, List.set_cons_succ, List.getElem_toArray, List.getElem_cons_zero, List.getElem_cons_succ]
  refine wpAnyL_takeS (i := 2) (v := ?_) rfl (by kernel_rfl) (by kernel_rfl) (by kernel_rfl) (by kernel_rfl) (fun _ _ _ h => h) (Or.inl ⟨by rfl, ?_⟩) (by assumption) ?_
  rotate_left 1
  · intro wz _
    go_simp
    all_goals with_reducible rfl
  simp only [Act.put, List.setIfInBounds_toArray, List.set_cons_zero, List.set_cons_succ, List.getElem_toArray, List.getElem_cons_zero, List.getElem_cons_succ]
  refine wpAnyL_takeS (i := 3) (v := ?_) rfl (by kernel_rfl) (by kernel_rfl) (by kernel_rfl) (by kernel_rfl) (fun _ _ _ h => h) (Or.inl ⟨by rfl, ?_⟩) (by assumption) ?_
  rotate_left 1
  · intro wz _
    go_simp
    all_goals with_reducible rfl
  simp only [Act.put, List.setIfInBounds_toArray, List.set_cons_zero, List.set_cons_succ, List.getElem_toArray, List.getElem_cons_zero, List.getElem_cons_succ]
  refine wpAnyL_takeS (i := 4) (v := ?_) rfl (by kernel_rfl) (by kernel_rfl) (by kernel_rfl) (by kernel_rfl) (fun _ _ _ h => h) (Or.inl ⟨by rfl, ?_⟩) (by assumption) ?_
  rotate_left 1
  · intro wz _
    go_simp
    all_goals with_reducible rfl
  simp only [Act.put, List.setIfInBounds_toArray, List.set_cons_zero, List.set_cons_succ, List.getElem_toArray, List.getElem_cons_zero, List.getElem_cons_succ]
  refine wpAnyL_ready (rs := [5]) (by kernel_rfl) (by simp) (AllReadyL.cons rfl (fun Q hQ => ?_) AllReadyL.nil)
  go_simp
  refine (HS.out _).mono ?_
  rintro e W2 ⟨rfl, rfl⟩
  refine hQ.out _ _ ⟨trivial, hHeld.2⟩ (fun hHeld => ?_)
  clear hQ Q
  refine wpAnyL_ready (rs := [6]) (by kernel_rfl) (by simp) (AllReadyL.last rfl (by kernel_rfl) (fun Q hQ => ?_) AllReadyL.nil)
  go_simp
  refine (HC.out _ hHeld.2).mono ?_
  rintro e W3 ⟨rfl, W4, hb, rfl⟩
  have hB4 : Below W.heap.size W W4 := belJ hHeld.2 hb
  have hR := HP.out.setL hB4 (lv' := .slice none 0 0) (nil := true) (r := P.lr) (.inl ⟨rfl, rfl⟩)
  have HR := hideIt hR
  refine hQ.out _ _ trivial (fun _ => ?_)
  clear hQ Q hR hHeld HS HC HP hb hB4
  refine wpAnyL_done (by kernel_rfl) ?_ _
  go_wp2
  go_ret
  exact ⟨rfl, _, HR.out.1, HR.out.2⟩
set_option maxRecDepth 100000 in
set_option maxHeartbeats 4000000 in
theorem cutS_bad (h : StoP w0 W K P) {a : Addr} {x c : Nat} (hx : x ≠ P.n) : Calls Try.prog 28 #[.pointer (some ⟨K.B, 0, none⟩), .slice (some a) x c] W fun en W' => en = .returned (toldE 3) ∧ StTold w0 K P W P W' := by
  have HP := hideIt h
  have hnil := nilNqLs W a x c
  obtain ⟨⟨c0, _⟩, _⟩ := h.cells
  have hne : (((x : Int)) != ((P.n : Int))) = true := by simp; omega
  have hne2 : ¬ (x : Int) = (P.n : Int) := by omega
  have HE : Hid (toldE 3 = .iface 46 (.int .i64 3)) := rfl
  clear h hx
  go_enter Try.func28, Try.ntmps28
  go_wp2
  go_ret
  exact ⟨by rw [HE.out]; rfl, K, HP.out, SFr.refl _ _ _⟩
set_option maxRecDepth 100000 in
set_option maxHeartbeats 4000000 in
theorem cutS_any (h : StoP w0 W K P) (hn1 : 1 ≤ P.n) (hn7 : P.n ≤ 7) (hk8 : P.k ≤ 8) (r : Nat → Nat → Bool) (X : Nat → Prop) {a : Addr} {c : Nat} (hl : LnkS W X (.slice (some a) P.n c) (tabL P.n r)) :
    Calls Try.prog 28 #[.pointer (some ⟨K.B, 0, none⟩), .slice (some a) P.n c] W fun en W' => en = .returned (toldE 0) ∧ StTold w0 K P W (wideP P r) W' := by
  have HS : Hid (∀ Z, Below W.heap.size W Z → Calls Try.prog 43 #[.pointer (some ⟨K.B, 0, none⟩), .slice (some a) P.n c] Z fun e w' => DrawL Z (P.n + P.k) (fun a b => r (a % P.n) (b % P.n)) e w') := fun Z hZ => spread_any (h.below hZ) hn1 hn7 hk8 r X _ (hl.below hZ (Nat.le_refl _))
  have HC : Hid (∀ Z, Below W.heap.size W Z → ∀ (Y : Nat → Prop) (l : Value), LnkS Z Y l (tabL (P.n + P.k) fun a b => r (a % P.n) (b % P.n)) → Calls Try.prog 42 #[.pointer (some ⟨K.B, 5, none⟩), l] Z fun e w' => e = .returned (.tuple #[]) ∧ ∃ lv' w1, Below Z.heap.size Z w1 ∧ w' = w1.setCell ⟨K.B, 5 + 1, none⟩ lv' ∧ LnkS w1 (fun b => Z.heap.size ≤ b ∧ LTg w1 b) lv' (tabL (P.n + P.k) fun a b => r (a % P.n) (b % P.n)) ∧ ∃ a n c, lv' = .slice (some a) n c) := fun Z hZ Y l hY => pcut_any (P.n + P.k) (by omega) _ Y l _ _ _ _ _ _ _ (h.below hZ).net ((h.below hZ).fzB 6) hY
  have HP := hideIt h
  have hnil := nilNqLs W a P.n c
  obtain ⟨⟨c0, _⟩, _⟩ := h.cells
  have HW : Hid (∀ W4 lv', Below W.heap.size W W4 → LkP W4 lv' false (tabL (P.n + P.k) fun a b => r (a % P.n) (b % P.n)) → StTold w0 K P W (wideP P r) (W4.setCell ⟨K.B, 6, none⟩ lv')) := fun W4 lv' hb hk => ⟨_, h.setL hb hk⟩
  clear h hl HP
  generalize (fun a b => r (a % P.n) (b % P.n)) = R at *
  generalize P.n + P.k = N at *
  generalize wideP P r = P' at *
  go_enter Try.func28, Try.ntmps28
  go_upto_region 3 with fail
  refine wp_region_L (B := [6]) (S := fun _ => True) (T := fun Z => Below W.heap.size W Z) (by kernel_rfl) ⟨trivial, (Below.refl _ _).drew⟩ (fun hHeld => ?_)
  refine wpAnyL_takeS (i := 0) (v := ?_) rfl (by kernel_rfl) (by kernel_rfl) (by kernel_rfl) (by kernel_rfl) (fun _ _ _ h => h) (Or.inl ⟨by rfl, ?_⟩) (by assumption) ?_
  rotate_left 1
  · intro wz _
    go_simp
    all_goals with_reducible rfl
  simp only [Act.put, List.setIfInBounds_toArray, List.set_cons_zero, List.set_cons_succ, List.getElem_toArray, List.getElem_cons_zero]
  refine wpAnyL_takeS (i := 1) (v := ?_) rfl (by kernel_rfl) (by kernel_rfl) (by kernel_rfl) (by kernel_rfl) (fun _ _ _ h => h) (Or.inl ⟨by rfl, ?_⟩) (by assumption) ?_
  rotate_left 1
  · intro wz _
    go_simp
    all_goals with_reducible rfl
  simp only [Act.put, List.setIfInBounds_toArray, List.set_cons_zero, List.set_cons_succ, List.getElem_toArray, List.getElem_cons_zero, List.getElem_cons_succ]
  refine wpAnyL_takeS (i := 2) (v := ?_) rfl (by kernel_rfl) (by kernel_rfl) (by kernel_rfl) (by kernel_rfl) (fun _ _ _ h => h) (Or.inl ⟨by rfl, ?_⟩) (by assumption) ?_
  rotate_left 1
  · intro wz _
    go_simp
    all_goals with_reducible rfl
  simp only [Act.put, List.setIfInBounds_toArray, List.set_cons_zero, List.set_cons_succ, List.getElem_toArray, List.getElem_cons_zero, List.getElem_cons_succ]
  refine wpAnyL_takeS (i := 3) (v := ?_) rfl (by kernel_rfl) (by kernel_rfl) (by kernel_rfl) (by kernel_rfl) (fun _ _ _ h => h) (Or.inl ⟨by rfl, ?_⟩) (by assumption) ?_
  rotate_left 1
  · intro wz _
    go_simp
    all_goals with_reducible rfl
  simp only [Act.put, List.setIfInBounds_toArray, List.set_cons_zero, List.set_cons_succ, List.getElem_toArray, List.getElem_cons_zero, List.getElem_cons_succ]
  refine wpAnyL_takeS (i := 4) (v := ?_) rfl (by kernel_rfl) (by kernel_rfl) (by kernel_rfl) (by kernel_rfl) (fun _ _ _ h => h) (Or.inl ⟨by rfl, ?_⟩) (by assumption) ?_
  rotate_left 1
  · intro wz _
    go_simp
    all_goals with_reducible rfl
  simp only [Act.put, List.setIfInBounds_toArray, List.set_cons_zero, List.set_cons_succ, List.getElem_toArray, List.getElem_cons_zero, List.getElem_cons_succ]
  refine wpAnyL_ready (rs := [5]) (by kernel_rfl) (by simp) (AllReadyL.cons rfl (fun Q hQ => ?_) AllReadyL.nil)
  go_simp
  refine (HS.out _ hHeld.2).mono ?_
  rintro e W2 ⟨lv, rfl, h1, ⟨a1, n1, c1, rfl⟩, h2⟩
  have H1 := hideIt h1
  refine hQ.out _ _ ⟨trivial, belJ hHeld.2 h2⟩ (fun hHeld => ?_)
  clear hQ Q h1 h2
  refine wpAnyL_ready (rs := [6]) (by kernel_rfl) (by simp) (AllReadyL.last rfl (by kernel_rfl) (fun Q hQ => ?_) AllReadyL.nil)
  go_simp
  refine (HC.out _ hHeld.2 _ _ H1.out).mono ?_
  rintro e W3 ⟨rfl, lv', W4, hb, rfl, h3, h4⟩
  have HR := hideIt (HW.out W4 lv' (belJ hHeld.2 hb) (.inr ⟨rfl, LnkS.mono h3 fun b _ hx => hx.2, h4⟩))
  refine hQ.out _ _ trivial (fun _ => ?_)
  clear hQ Q hHeld HS HC hb h3 h4 H1
  refine wpAnyL_done (by kernel_rfl) ?_ _
  go_wp2
  go_ret
  exact ⟨rfl, HR.out⟩
end
end Go.Proofs.Ytncnojgemmcplaa
