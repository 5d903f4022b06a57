/-
  The program's store, walked: Cut.
  The program's store, walked: plain.Play.
  The program's store: a new one; whatever is played; what is kept (plain and walked).
-/
import Derived.Test.YtncnojgemmcplaaGreatDoorNwWZ
import Derived.Test.YtncnojgemmcplaaGreatDoorSmQZ
import Derived.Test.YtncnojgemmcplaaGreatDoorBsGZ
namespace Go.Proofs.YtncnojgemmcplaaGreatDoor.St
open Go.RowKit

theorem nilNqL (w : World) : (binOp .neq 77 (.slice none 0 0) (.slice none 0 0)).run Tryz.prog w = .ok (.bool false) w := by kernel_rfl
theorem nilNqLs (w : World) (a : Addr) (n c : Nat) : (binOp .neq 77 (.slice (some a) n c) (.slice none 0 0)).run Tryz.prog w = .ok (.bool true) w := by kernel_rfl
section
variable {w0 W W' : World} {K : StK} {P : Pst}
set_option maxRecDepth 100000 in
set_option maxHeartbeats 4000000 in
theorem cutS_nil (h : StoP w0 W K P) : Calls Tryz.prog 30 #[.pointer (some ⟨K.B, 0, none⟩), .slice none 0 0] W fun en W' => en = .returned (toldE 0) ∧ StTold w0 K P W (allP P) W' := by
  have HS : Hid (∀ Z, Calls Tryz.prog 59 #[.pointer (some ⟨K.B, 0, none⟩), .slice none 0 0] Z fun e w' => e = .returned (.slice none 0 0) ∧ w' = Z) := fun Z => spread_nil K.B Z
  have HC : Hid (∀ Z, Below W.heap.size W Z → Calls Tryz.prog 58 #[.pointer (some ⟨K.B, 5, none⟩), .slice none 0 0] Z fun e w' => e = .returned (.tuple #[]) ∧ CutQ K.B 5 (.slice none 0 0) Z w') := fun Z hZ => pcut_nil _ _ _ _ _ _ _ (h.below hZ).net ((h.below hZ).fzB 6)
  have HP := hideIt h
  have hnil := nilNqL W
  clear h
  go_enter Tryz.func30, Tryz.ntmps30
  go_upto_region 3 with fail
  refine wp_region_L (B := [6]) (S := fun _ => True) (T := fun Z => Below W.heap.size W Z) (by kernel_rfl) ⟨trivial, (Below.refl _ _).drew⟩ (fun hHeld => ?_)
  refine wpAnyL_takeS (i := 0) (v := ?_) rfl (by kernel_rfl) (by kernel_rfl) (by kernel_rfl) (by kernel_rfl) (fun _ _ _ h => h) (Or.inl ⟨by rfl, ?_⟩) (by assumption) ?_
  rotate_left 1
  · intro wz _
    go_simp
    all_goals with_reducible rfl
  simp only [Act.put, List.setIfInBounds_toArray, List.set_cons_zero, List.set_cons_succ, List.getElem_toArray, List.getElem_cons_zero]
  refine wpAnyL_takeS (i := 1) (v := ?_) rfl (by kernel_rfl) (by kernel_rfl) (by kernel_rfl) (by kernel_rfl) (fun _ _ _ h => h) (Or.inl ⟨by rfl, ?_⟩) (by assumption) ?_
  rotate_left 1
  · intro wz _
    go_simp
    all_goals with_reducible rfl
  simp only [Act.put, List.setIfInBounds_toArray, List.set_cons_zero, List.set_cons_succ, List.getElem_toArray, List.getElem_cons_zero, List.getElem_cons_succ]
  refine wpAnyL_takeS (i := 2) (v := ?_) rfl (by kernel_rfl) (by kernel_rfl) (by kernel_rfl) (by kernel_rfl) (fun _ _ _ h => h) (Or.inl ⟨by rfl, ?_⟩) (by assumption) ?_
  rotate_left 1
  · intro wz _
    go_simp
    all_goals with_reducible rfl
  simp only [Act.put, List.setIfInBounds_toArray, List.set_cons_zero, List.set_cons_succ, List.getElem_toArray, List.getElem_cons_zero, List.getElem_cons_succ]
  refine wpAnyL_takeS (i := 3) (v := ?_) rfl (by kernel_rfl) (by kernel_rfl) (by kernel_rfl) (by kernel_rfl) (fun _ _ _ h => h) (Or.inl ⟨by rfl, ?_⟩) (by assumption) ?_
  rotate_left 1
  · intro wz _
    go_simp
    all_goals with_reducible rfl
  simp only [Act.put, List.setIfInBounds_toArray, List.set_cons_zero, List.set_cons_succ, List.getElem_toArray, List.getElem_cons_zero, List.getElem_cons_succ]
  refine wpAnyL_takeS (i := 4) (v := ?_) rfl (by kernel_rfl) (by kernel_rfl) (by kernel_rfl) (by kernel_rfl) (fun _ _ _ h => h) (Or.inl ⟨by rfl, ?_⟩) (by assumption) ?_
  rotate_left 1
  · intro wz _
    go_simp
    all_goals with_reducible rfl
  simp only [Act.put, List.setIfInBounds_toArray, List.set_cons_zero, List.set_cons_succ, List.getElem_toArray, List.getElem_cons_zero, List.getElem_cons_succ]
  refine wpAnyL_ready (rs := [5]) (by kernel_rfl) (by simp) (AllReadyL.cons rfl (fun Q hQ => ?_) AllReadyL.nil)
  go_simp
  refine (HS.out _).mono ?_
  rintro e W2 ⟨rfl, rfl⟩
  refine hQ.out _ _ ⟨trivial, hHeld.2⟩ (fun hHeld => ?_)
  clear hQ Q
  refine wpAnyL_ready (rs := [6]) (by kernel_rfl) (by simp) (AllReadyL.last rfl (by kernel_rfl) (fun Q hQ => ?_) AllReadyL.nil)
  go_simp
  refine (HC.out _ hHeld.2).mono ?_
  rintro e W3 ⟨rfl, W4, hb, rfl⟩
  have hB4 : Below W.heap.size W W4 := belJ hHeld.2 hb
  have hR := HP.out.setL hB4 (lv' := .slice none 0 0) (nil := true) (r := P.lr) (.inl ⟨rfl, rfl⟩)
  have HR := hideIt hR
  refine hQ.out _ _ trivial (fun _ => ?_)
  clear hQ Q hR hHeld HS HC HP hb hB4
  refine wpAnyL_done (by kernel_rfl) ?_ _
  go_wp2
  go_ret
  exact ⟨rfl, _, HR.out.1, HR.out.2⟩
set_option maxRecDepth 100000 in
set_option maxHeartbeats 4000000 in
theorem cutS_bad (h : StoP w0 W K P) {a : Addr} {x c : Nat} (hx : x ≠ P.n) : Calls Tryz.prog 30 #[.pointer (some ⟨K.B, 0, none⟩), .slice (some a) x c] W fun en W' => en = .returned (toldE 3) ∧ StTold w0 K P W P W' := by
  have HP := hideIt h
  have hnil := nilNqLs W a x c
  obtain ⟨⟨c0, _⟩, _⟩ := h.cells
  have hne : (((x : Int)) != ((P.n : Int))) = true := by simp; omega
  have hne2 : ¬ (x : Int) = (P.n : Int) := by omega
  have HE : Hid (toldE 3 = .iface 38 (.int .i64 3)) := rfl
  clear h hx
  go_enter Tryz.func30, Tryz.ntmps30
  go_wp2
  go_ret
  exact ⟨by rw [HE.out]; rfl, K, HP.out, SFr.refl _ _ _⟩
set_option maxRecDepth 100000 in
set_option maxHeartbeats 4000000 in
theorem cutS_any (h : StoP w0 W K P) (hn1 : 1 ≤ P.n) (hn7 : P.n ≤ 7) (hk8 : P.k ≤ 8) (r : Nat → Nat → Bool) (X : Nat → Prop) {a : Addr} {c : Nat} (hl : LnkS W X (.slice (some a) P.n c) (tabL P.n r)) :
    Calls Tryz.prog 30 #[.pointer (some ⟨K.B, 0, none⟩), .slice (some a) P.n c] W fun en W' => en = .returned (toldE 0) ∧ StTold w0 K P W (wideP P r) W' := by
  have HS : Hid (∀ Z, Below W.heap.size W Z → Calls Tryz.prog 59 #[.pointer (some ⟨K.B, 0, none⟩), .slice (some a) P.n c] Z fun e w' => DrawL Z (P.n + P.k) (fun a b => r (a % P.n) (b % P.n)) e w') := fun Z hZ => spread_any (h.below hZ) hn1 hn7 hk8 r X _ (hl.below hZ (Nat.le_refl _))
  have HC : Hid (∀ Z, Below W.heap.size W Z → ∀ (Y : Nat → Prop) (l : Value), LnkS Z Y l (tabL (P.n + P.k) fun a b => r (a % P.n) (b % P.n)) → Calls Tryz.prog 58 #[.pointer (some ⟨K.B, 5, none⟩), l] Z fun e w' => e = .returned (.tuple #[]) ∧ ∃ lv' w1, Below Z.heap.size Z w1 ∧ w' = w1.setCell ⟨K.B, 5 + 1, none⟩ lv' ∧ LnkS w1 (fun b => Z.heap.size ≤ b ∧ LTg w1 b) lv' (tabL (P.n + P.k) fun a b => r (a % P.n) (b % P.n)) ∧ ∃ a n c, lv' = .slice (some a) n c) := fun Z hZ Y l hY => pcut_any (P.n + P.k) (by omega) _ Y l _ _ _ _ _ _ _ (h.below hZ).net ((h.below hZ).fzB 6) hY
  have HP := hideIt h
  have hnil := nilNqLs W a P.n c
  obtain ⟨⟨c0, _⟩, _⟩ := h.cells
  have HW : Hid (∀ W4 lv', Below W.heap.size W W4 → LkP W4 lv' false (tabL (P.n + P.k) fun a b => r (a % P.n) (b % P.n)) → StTold w0 K P W (wideP P r) (W4.setCell ⟨K.B, 6, none⟩ lv')) := fun W4 lv' hb hk => ⟨_, h.setL hb hk⟩
  clear h hl HP
  generalize (fun a b => r (a % P.n) (b % P.n)) = R at *
  generalize P.n + P.k = N at *
  generalize wideP P r = P' at *
  go_enter Tryz.func30, Tryz.ntmps30
  go_upto_region 3 with fail
  refine wp_region_L (B := [6]) (S := fun _ => True) (T := fun Z => Below W.heap.size W Z) (by kernel_rfl) ⟨trivial, (Below.refl _ _).drew⟩ (fun hHeld => ?_)
  refine wpAnyL_takeS (i := 0) (v := ?_) rfl (by kernel_rfl) (by kernel_rfl) (by kernel_rfl) (by kernel_rfl) (fun _ _ _ h => h) (Or.inl ⟨by rfl, ?_⟩) (by assumption) ?_
  rotate_left 1
  · intro wz _
    go_simp
    all_goals with_reducible rfl
  simp only [Act.put, List.setIfInBounds_toArray, List.set_cons_zero, List.set_cons_succ, List.getElem_toArray, List.getElem_cons_zero]
  refine wpAnyL_takeS (i := 1) (v := ?_) rfl (by kernel_rfl) (by kernel_rfl) (by kernel_rfl) (by kernel_rfl) (fun _ _ _ h => h) (Or.inl ⟨by rfl, ?_⟩) (by assumption) ?_
  rotate_left 1
  · intro wz _
    go_simp
    all_goals with_reducible rfl
  simp only [Act.put, List.setIfInBounds_toArray, List.set_cons_zero, List.set_cons_succ, List.getElem_toArray, List.getElem_cons_zero, List.getElem_cons_succ]
  refine wpAnyL_takeS (i := 2) (v := ?_) rfl (by kernel_rfl) (by kernel_rfl) (by kernel_rfl) (by kernel_rfl) (fun _ _ _ h => h) (Or.inl ⟨by rfl, ?_⟩) (by assumption) ?_
  rotate_left 1
  · intro wz _
    go_simp
    all_goals with_reducible rfl
  simp only [Act.put, List.setIfInBounds_toArray, List.set_cons_zero, List.set_cons_succ, List.getElem_toArray, List.getElem_cons_zero, List.getElem_cons_succ]
  refine wpAnyL_takeS (i := 3) (v := ?_) rfl (by kernel_rfl) (by kernel_rfl) (by kernel_rfl) (by kernel_rfl) (fun _ _ _ h => h) (Or.inl ⟨by rfl, ?_⟩) (by assumption) ?_
  rotate_left 1
  · intro wz _
    go_simp
    all_goals with_reducible rfl
  simp only [Act.put, List.setIfInBounds_toArray, List.set_cons_zero, List.set_cons_succ, List.getElem_toArray, List.getElem_cons_zero, List.getElem_cons_succ]
  refine wpAnyL_takeS (i := 4) (v := ?_) rfl (by kernel_rfl) (by kernel_rfl) (by kernel_rfl) (by kernel_rfl) (fun _ _ _ h => h) (Or.inl ⟨by rfl, ?_⟩) (by assumption) ?_
  rotate_left 1
  · intro wz _
    go_simp
    all_goals with_reducible rfl
  simp only [Act.put, List.setIfInBounds_toArray, List.set_cons_zero, List.set_cons_succ, List.getElem_toArray, List.getElem_cons_zero, List.getElem_cons_succ]
  refine wpAnyL_ready (rs := [5]) (by kernel_rfl) (by simp) (AllReadyL.cons rfl (fun Q hQ => ?_) AllReadyL.nil)
  go_simp
  refine (HS.out _ hHeld.2).mono ?_
  rintro e W2 ⟨lv, rfl, h1, ⟨a1, n1, c1, rfl⟩, h2⟩
  have H1 := hideIt h1
  refine hQ.out _ _ ⟨trivial, belJ hHeld.2 h2⟩ (fun hHeld => ?_)
  clear hQ Q h1 h2
  refine wpAnyL_ready (rs := [6]) (by kernel_rfl) (by simp) (AllReadyL.last rfl (by kernel_rfl) (fun Q hQ => ?_) AllReadyL.nil)
  go_simp
  refine (HC.out _ hHeld.2 _ _ H1.out).mono ?_
  rintro e W3 ⟨rfl, lv', W4, hb, rfl, h3, h4⟩
  have HR := hideIt (HW.out W4 lv' (belJ hHeld.2 hb) (.inr ⟨rfl, LnkS.mono h3 fun b _ hx => hx.2, h4⟩))
  refine hQ.out _ _ trivial (fun _ => ?_)
  clear hQ Q hHeld HS HC hb h3 h4 H1
  refine wpAnyL_done (by kernel_rfl) ?_ _
  go_wp2
  go_ret
  exact ⟨rfl, HR.out⟩
end
end Go.Proofs.YtncnojgemmcplaaGreatDoor.St

namespace Go.Proofs.YtncnojgemmcplaaGreatDoor.St
open Go.RowKit

section
variable {w0 W W' : World} {K : StK} {P : Pst}
def mvV (m : Mvs) : Value := .agg #[.int .i64 m.what, .int .i64 m.a, .int .i64 m.b, .int .i64 m.c]
theorem StTold.pre {P' : Pst} {W1 W2 : World} (hb : Below W.heap.size W W1) (h : StTold w0 K P W1 P' W2) : StTold w0 K P W P' W2 := by
  obtain ⟨K', h1, h2⟩ := h
  exact ⟨K', h1, (SFr.below hb).trans h2⟩
set_option maxRecDepth 100000 in
set_option maxHeartbeats 8000000 in
theorem play_any {b : Nat} (h : StoP w0 W K P) (hI : PInv P b) (m : Mvs) :
    Calls Tryz.prog 9 #[.pointer (some ⟨K.B, 0, none⟩), mvV m] W fun en W' => en = .returned (toldE (playC P m)) ∧ StTold w0 K P W (playP P m) W' := by
  obtain ⟨what, ma, mb, mc⟩ := m
  unfold mvV
  have hB := belA (Below.refl W.heap.size W) (.cells #[.int .i64 what, .int .i64 ma, .int .i64 mb, .int .i64 mc] 35)
  have hP1 := h.below hB
  have HB := hideIt hB
  have HP := hideIt hP1
  have HI := hideIt hI
  have hkc := h.ltB
  clear h hI hB hP1
  unfold playC playP
  dsimp only
  by_cases e0 : what = 0
  · simp only [if_pos e0]
    have HC := hideIt (begin_any HP.out HI.out.bnd ma mb false mc)
    generalize toldE (begC P ma mb false mc) = ve at HC ⊢
    subst e0
    clear HP HI
    go_enter Tryz.func9, Tryz.ntmps9
    go_wp2_with fail
    refine HC.out.mono ?_
    rintro e W2 ⟨rfl, hT⟩
    have HT := hideIt (StTold.pre HB.out hT)
    clear hT HC HB
    go_wp2
    go_ret
    exact ⟨rfl, HT.out⟩
  simp only [if_neg e0]
  have n0 : (what == 0) = false := by simp [e0]
  by_cases e1 : what = 1
  · simp only [if_pos e1]
    have HC := hideIt (begin_any HP.out HI.out.bnd ma mb true mc)
    generalize toldE (begC P ma mb true mc) = ve at HC ⊢
    subst e1
    clear HP HI
    go_enter Tryz.func9, Tryz.ntmps9
    go_wp2_with fail
    refine HC.out.mono ?_
    rintro e W2 ⟨rfl, hT⟩
    have HT := hideIt (StTold.pre HB.out hT)
    clear hT HC HB
    go_wp2
    go_ret
    exact ⟨rfl, HT.out⟩
  simp only [if_neg e1]
  have n1 : (what == 1) = false := by simp [e1]
  by_cases e2 : what = 2
  · simp only [if_pos e2]
    have HC := hideIt (deliver_any HP.out HI.out.bnd ma)
    generalize toldE (deliC P ma) = ve at HC ⊢
    subst e2
    clear HP HI
    go_enter Tryz.func9, Tryz.ntmps9
    go_wp2_with fail
    refine HC.out.mono ?_
    rintro e W2 ⟨rfl, hT⟩
    have HT := hideIt (StTold.pre HB.out hT)
    clear hT HC HB
    go_wp2
    go_ret
    exact ⟨rfl, HT.out⟩
  simp only [if_neg e2]
  have n2 : (what == 2) = false := by simp [e2]
  by_cases e3 : what = 3
  · simp only [if_pos e3]
    have HC := hideIt (dropS_any HP.out HI.out.ml ma)
    generalize toldE (dropC P ma) = ve at HC ⊢
    subst e3
    clear HP HI
    go_enter Tryz.func9, Tryz.ntmps9
    go_wp2_with fail
    refine HC.out.mono ?_
    rintro e W2 ⟨rfl, hT⟩
    have HT := hideIt (StTold.pre HB.out hT)
    clear hT HC HB
    go_wp2
    go_ret
    exact ⟨rfl, HT.out⟩
  simp only [if_neg e3]
  have n3 : (what == 3) = false := by simp [e3]
  by_cases e4 : what = 4
  · simp only [if_pos e4]
    have HC := hideIt (doubleS_any HP.out ma)
    generalize toldE (doubC P ma) = ve at HC ⊢
    subst e4
    clear HP HI
    go_enter Tryz.func9, Tryz.ntmps9
    go_wp2_with fail
    refine HC.out.mono ?_
    rintro e W2 ⟨rfl, hT⟩
    have HT := hideIt (StTold.pre HB.out hT)
    clear hT HC HB
    go_wp2
    go_ret
    exact ⟨rfl, HT.out⟩
  simp only [if_neg e4]
  have n4 : (what == 4) = false := by simp [e4]
  by_cases e5 : what = 5
  · simp only [if_pos e5]
    have HC := hideIt (giveUp_any HP.out HI.out.bnd.ev HI.out.bnd.st ma)
    generalize toldE (giveC P ma) = ve at HC ⊢
    subst e5
    clear HP HI
    go_enter Tryz.func9, Tryz.ntmps9
    go_wp2_with fail
    refine HC.out.mono ?_
    rintro e W2 ⟨rfl, hT⟩
    have HT := hideIt (StTold.pre HB.out hT)
    clear hT HC HB
    go_wp2
    go_ret
    exact ⟨rfl, HT.out⟩
  simp only [if_neg e5]
  have n5 : (what == 5) = false := by simp [e5]
  by_cases e6 : what = 6
  · simp only [if_pos e6]
    have HC := hideIt (cutS_nil HP.out)
    generalize toldE (0) = ve at HC ⊢
    subst e6
    clear HP HI
    go_enter Tryz.func9, Tryz.ntmps9
    go_wp2_with fail
    refine HC.out.mono ?_
    rintro e W2 ⟨rfl, hT⟩
    have HT := hideIt (StTold.pre HB.out hT)
    clear hT HC HB
    go_wp2
    go_ret
    exact ⟨rfl, HT.out⟩
  simp only [if_neg e6]
  have n6 : (what == 6) = false := by simp [e6]
  have HL := hideIt (links_any what ma mb (W.alloc (.cells #[.int .i64 what, .int .i64 ma, .int .i64 mb, .int .i64 mc] 35)))
  have HE : Hid (∀ c : Int, c ≠ 0 → toldE c = .iface 38 (.int .i64 c)) := fun c hc => by unfold toldE; rw [if_neg hc]
  have HQ : Hid (∀ Z, Below (W.alloc (.cells #[.int .i64 what, .int .i64 ma, .int .i64 mb, .int .i64 mc] 35)).heap.size (W.alloc (.cells #[.int .i64 what, .int .i64 ma, .int .i64 mb, .int .i64 mc] 35)) Z → StoP w0 Z K P ∧ Below W.heap.size W Z) := fun Z hZ => ⟨HP.out.below hZ, belJ HB.out hZ⟩
  have Hn := hideIt (show 1 ≤ P.n ∧ P.n ≤ 7 ∧ P.k ≤ 8 from ⟨HI.out.n1, HI.out.n7, HI.out.k8⟩)
  clear HP HI HB e0 e1 e2 e3 e4 e5 e6
  generalize hrule : ruleW what = rule at HL ⊢
  have HNo : Hid (∀ c : Int, c ≠ 0 → cutC P rule ma mb = c → cutP P rule ma mb = P) := fun c hc he => by unfold cutP; rw [if_neg (by rw [he]; exact hc)]
  clear hrule
  go_enter Tryz.func9, Tryz.ntmps9
  go_wp2_with fail
  refine HL.out.mono ?_
  clear HL
  rintro e W2 (⟨h1, rfl, h2⟩ | ⟨h1, hr, h5, rfl, h2⟩ | ⟨n, rfl, h1, h5, lv, rfl, h3, h4⟩)
  · have hc : cutC P rule ma mb = 4 := by unfold cutC; rw [if_pos h1]
    have HR : Hid (toldE (cutC P rule ma mb) = .iface 38 (.int .i64 4) ∧ StTold w0 K P W (cutP P rule ma mb) W2) := by
      obtain ⟨q1, q2⟩ := HQ.out W2 h2
      rw [HNo.out 4 (by decide) hc, hc]
      exact ⟨rfl, K, q1, SFr.below q2⟩
    clear hc h1 h2 HQ HNo HE Hn
    unfold badV
    go_wp2
    go_ret
    exact ⟨by rw [HR.out.1]; rfl, HR.out.2⟩
  · have hc : cutC P rule ma mb = 2 := by unfold cutC; rw [if_neg (by omega), if_pos ⟨hr, h5⟩]
    have HR : Hid (toldE (cutC P rule ma mb) = .iface 38 (.int .i64 2) ∧ StTold w0 K P W (cutP P rule ma mb) W2) := by
      obtain ⟨q1, q2⟩ := HQ.out W2 h2
      rw [HNo.out 2 (by decide) hc, hc]
      exact ⟨rfl, K, q1, SFr.below q2⟩
    clear hc h1 h2 h5 hr HQ HNo HE Hn
    unfold badV
    go_wp2
    go_ret
    exact ⟨by rw [HR.out.1]; rfl, HR.out.2⟩
  · obtain ⟨q1, q2⟩ := HQ.out W2 h4
    obtain ⟨g, off, cap, rfl, _⟩ := h3.tab (show 0 < n by omega)
    have hc : cutC P rule (n : Int) mb = if (n : Int) ≠ P.n then 3 else 0 := by
      unfold cutC
      rw [if_neg (by omega), if_neg (fun hx => by have := h5 hx.1; omega)]
    have HC : Hid (Calls Tryz.prog 30 #[.pointer (some ⟨K.B, 0, none⟩), .slice (some ⟨g, off, none⟩) n cap] W2 fun en W' => en = .returned (toldE (cutC P rule (n : Int) mb)) ∧ StTold w0 K P W (cutP P rule (n : Int) mb) W') := by
      by_cases hn : n = P.n
      · subst hn
        have hc0 : cutC P rule (P.n : Int) mb = 0 := by rw [hc, if_neg (fun hx => hx rfl)]
        refine (cutS_any q1 Hn.out.1 Hn.out.2.1 Hn.out.2.2 _ _ h3).mono fun en W' ⟨h6, h7⟩ => ⟨by rw [hc0]; exact h6, ?_⟩
        unfold cutP
        rw [if_pos hc0]
        exact StTold.pre q2 h7
      · have hc0 : cutC P rule (n : Int) mb = 3 := by rw [hc, if_pos (by omega)]
        refine (cutS_bad q1 hn).mono fun en W' ⟨h6, h7⟩ => ⟨by rw [hc0]; exact h6, ?_⟩
        rw [HNo.out 3 (by decide) hc0]
        exact StTold.pre q2 h7
    clear hc h1 h3 h4 h5 q1 q2 HQ HNo HE Hn
    obtain ⟨ve, hve⟩ : ∃ ve, toldE (cutC P rule (n : Int) mb) = ve := ⟨_, rfl⟩
    rw [hve] at HC
    have HV := hideIt hve
    clear hve
    go_wp2_with fail
    refine HC.out.mono ?_
    rintro e W3 ⟨rfl, hT⟩
    have HT := hideIt hT
    clear hT HC
    go_wp2
    go_ret
    exact ⟨by rw [HV.out]; rfl, HT.out⟩

end
end Go.Proofs.YtncnojgemmcplaaGreatDoor.St

namespace Go.Proofs.YtncnojgemmcplaaGreatDoor.St
open Go.RowKit

def stK0 (B N C : Nat) : StK := ⟨B, N, C, .slice none 0 0, .slice none 0 0, .slice none 0 0, .slice none 0 0, fun _ => .slice none 0 0⟩
theorem sto_new {w W : World} {B N C n k ask tell : Nat} {back : Bool} (h : NwAt w W B N C n k (ask : Int) (tell : Int) back n 0) : StoP w W (stK0 B N C) (pst0 n k ask tell back) := by
  obtain ⟨cur, hc, _⟩ := h.nb
  have hcl : ∀ i j, i < k → j < 13 → W.cell? ⟨C, i * 13 + j, none⟩ = (#[.int .i64 0, .int .i64 0, .int .i64 0, .int .i64 0, .int .i64 0, .int .i64 0, .int .i64 0, .int .i64 0, .int .i64 0, .slice none 0 0, .int .i64 0, .int .i64 0, .int .i64 0] : Array Value)[j]? := fun i j hi hj => by
    rw [cell_of_row _ _ _ _ 103 _ h.cb]
    exact clZ_at k hi hj
  refine ⟨h.bel, h.blk, ⟨cur, hc⟩, fun i q hi hq => h.nx i q hi hq (.inl hi), ⟨_, h.cb⟩, fun i hi => ⟨?_, ⟨?_, ?_, ?_, ?_, ?_, ?_, ?_⟩, ?_, ?_, ⟨?_, ?_, ?_⟩⟩, ⟨rfl, .inl ⟨rfl, rfl⟩⟩, ⟨rfl, .inl ⟨rfl, rfl⟩⟩, ⟨rfl, .inl ⟨rfl, rfl⟩⟩, fun i _ => ⟨rfl, .inl ⟨rfl, rfl⟩⟩, .inl ⟨rfl, rfl⟩, h.lo, fun i j _ _ _ b hb => by cases hb⟩
  · exact hcl i 0 hi (by decide)
  · exact hcl i 1 hi (by decide)
  · exact hcl i 2 hi (by decide)
  · exact hcl i 3 hi (by decide)
  · exact hcl i 4 hi (by decide)
  · exact hcl i 5 hi (by decide)
  · exact hcl i 6 hi (by decide)
  · exact hcl i 7 hi (by decide)
  · exact hcl i 8 hi (by decide)
  · exact hcl i 9 hi (by decide)
  · exact hcl i 10 hi (by decide)
  · exact hcl i 11 hi (by decide)
  · exact hcl i 12 hi (by decide)
theorem PInv.up2 {P : Pst} {b : Nat} (h : PInv P b) (hb : b + 2 ≤ 9000) : PInv P (b + 2) := (h.up (by omega)).up hb
theorem pinv0 {n k ask tell : Nat} (back : Bool) (h1 : 1 ≤ n) (h7 : n ≤ 7) (h8 : k ≤ 8) : PInv (pst0 n k ask tell back) 0 :=
  ⟨h1, h7, h8, by omega, Nat.le_refl _, Nat.le_refl _, Nat.zero_le _, fun m hm => (by cases hm), fun i _ => ⟨Nat.le_refl _, ⟨Int.le_refl _, Int.le_refl _⟩, ⟨Int.le_refl _, Int.le_refl _⟩, Int.le_refl _, (show (0 : Int) < 8 by decide)⟩, fun i q _ _ => ⟨Int.le_refl _, Int.le_refl _⟩, fun m hm => by cases hm⟩
theorem PInv.links {P : Pst} {b : Nat} (h : PInv P b) (nil : Bool) (r : Nat → Nat → Bool) : PInv { P with nil := nil, lr := r } b := ⟨h.n1, h.n7, h.k8, h.b0, h.ev, h.st, h.ml, h.mq, h.cl, h.hs, h.fr⟩
theorem PInv.play {P : Pst} {b : Nat} (h : PInv P b) (hb : b + 2 ≤ 9000) (m : Mvs) : PInv (playP P m) (b + 2) := by
  unfold playP
  repeat' split
  · exact (h.beg (by omega) _ _ _ _).up (by omega)
  · exact (h.beg (by omega) _ _ _ _).up (by omega)
  · exact h.deli hb _
  · exact (h.drop _).up2 hb
  · exact (h.doub _).up2 hb
  · exact (h.give (by omega) _).up (by omega)
  · exact (h.links true P.lr).up2 hb
  · unfold cutP
    split
    · exact (h.links false _).up2 hb
    · exact h.up2 hb
theorem runP_take {P : Pst} {l : List Mvs} {i : Nat} (hi : i < l.length) : runP P (l.take (i + 1)) = playP (runP P (l.take i)) l[i] := by
  unfold runP
  rw [List.take_succ_eq_append_getElem hi, List.foldl_append]
  rfl


end Go.Proofs.YtncnojgemmcplaaGreatDoor.St
