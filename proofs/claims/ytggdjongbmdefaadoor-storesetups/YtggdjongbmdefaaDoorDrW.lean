/-
  Package net's draw, walked.
-/
import Derived.Test.YtggdjongbmdefaaDoorLqMZ
import Derived.Test.YtggdjongbmdefaaDoorRgL
namespace Go.Proofs.YtggdjongbmdefaaDoor
open Go.RowKit

/-- Of row m what is drawn ahead of place k. -/
def midB (A : Nat → Nat → Bool) (m k : Nat) : Nat → Nat → Bool := fun a b => if a = m ∧ k ≤ b then false else A a b
theorem midB_put (A : Nat → Nat → Bool) (m k : Nat) (x : Bool) (h : A m k = x) (a b : Nat) : (if a = m ∧ b = k then x else midB A m k a b) = midB A m (k + 1) a b := by
  unfold midB
  by_cases e : a = m ∧ b = k
  · obtain ⟨rfl, rfl⟩ := e
    rw [if_pos ⟨rfl, rfl⟩, if_neg (by omega), h]
  · rw [if_neg e]
    by_cases e' : a = m ∧ k + 1 ≤ b
    · rw [if_pos (by omega), if_pos e']
    · rw [if_neg (by omega), if_neg e']
theorem midB_end (A : Nat → Nat → Bool) (m n a b : Nat) (hb : b < n) : midB A m n a b = A a b := by
  unfold midB
  rw [if_neg (by omega)]
/-- A matrix is links. -/
theorem MatAt.links {w : World} {base B n : Nat} {rb : Nat → Nat} {M : Nat → Nat → Bool} (h : MatAt w base B n n rb M) : LnkS w (fun b => base ≤ b ∧ LTg w b) (.slice (some ⟨B, 0, none⟩) n n) (tabL n M) := by
  refine ⟨_, n, by rw [tabL_len], .inr ⟨B, 0, rfl, ⟨h.lo, .inl (by obtain ⟨_, e⟩ := h.blk; rw [e]; rfl)⟩, fun i hi => ?_⟩⟩
  have hi' : i < n := by rwa [tabL_len] at hi
  refine ⟨_, n, by rw [Nat.zero_add, tabL_row_len]; exact h.head i hi', .inr ⟨rb i, 0, rfl, ⟨(h.from_ i hi').1, .inr (by obtain ⟨_, e⟩ := (h.row i hi').blk; rw [e]; rfl)⟩, fun j hj => ?_⟩⟩
  rw [tabL_at, Nat.zero_add]
  exact (h.row i hi').bit j (by rwa [tabL_row_len] at hj)
/-- Links that are drawn. -/
def DrawTold (w : World) (n : Nat) (r : Nat → Nat → Bool) (e : Ending) (w' : World) : Prop := ∃ lv, e = .returned (.tuple #[lv, .nilIface]) ∧ LnkS w' (fun b => w.heap.size ≤ b ∧ LTg w' b) lv (tabL n r) ∧ Below w.heap.size w w'

set_option maxRecDepth 100000 in
theorem draw_bad (x : Int) (F : Value) (hx : x < 1 ∨ 7 < x) (w : World) : Calls Tryd.prog 35 #[.int .i64 x, F] w fun e w' => e = .returned (.tuple #[.slice none 0 0, .iface 29 (.int .i64 4)]) ∧ w' = w := by
  rcases hx with hx | hx
  · have h1 : decide (x < 1) = true := decide_eq_true hx
    go_enter Tryd.func35, Tryd.ntmps35
    go_wp2
    go_ret2
    exact ⟨rfl, rfl⟩
  · have h1 : decide (x < 1) = false := decide_eq_false (by omega)
    have h2 : decide (x > 7) = true := decide_eq_true hx
    go_enter Tryd.func35, Tryd.ntmps35
    go_wp2
    go_ret2
    exact ⟨rfl, rfl⟩

set_option maxRecDepth 100000 in
set_option maxHeartbeats 4000000 in
theorem draw_any (n : Nat) (hn : 1 ≤ n ∧ n ≤ 7) (f : Nat) (caps : Array Value) (r : Nat → Nat → Bool) (w : World) (hF : RuleQ w f caps n r) (eg : ∀ args w, (callFunc f args).run Tryd.prog w = .ok (.enter f args) w) :
    Calls Tryd.prog 35 #[.int .i64 (n : Int), .func (.func f) #[] caps] w fun e w' => DrawTold w n r e w' := by
  have HF := hideIt hF
  clear hF
  have h1 : decide ((n : Int) < 1) = false := decide_eq_false (by omega)
  have h2 : decide ((n : Int) > 7) = false := decide_eq_false (by omega)
  have hmk := made_rows w n (by omega)
  have HM0 : Hid (MatAt (w.alloc (.cells (madeCells #[.slice none 0 0] n) 32)) w.heap.size w.heap.size n 0 (fun _ => 0) r) := (mat_made w n).same fun i k hi => absurd hi (by omega)
  have HB0 : Hid (Below w.heap.size w (w.alloc (.cells (madeCells #[.slice none 0 0] n) 32))) := belA (Below.refl _ _) _
  go_enter Tryd.func35, Tryd.ntmps35
  go_wp2
  clear h1 h2 hmk
  generalize w.alloc _ = W1 at HM0 HB0 ⊢
  go_loopw [20] (fun v wr => ∃ (m : Nat) (cb : Nat → Nat), m ≤ n ∧ v = .int .i64 m ∧ MatAt wr w.heap.size w.heap.size n m cb r ∧ Below w.heap.size w wr) (fun v _ => n - (intOf v).toNat)
  case atStart => exact ⟨0, _, Nat.zero_le _, rfl, HM0.out, HB0.out⟩
  case round =>
    clear HM0 HB0 W1
    obtain ⟨m, cb, hm, rfl, hM, hb⟩ := hrel
    have HM := hideIt hM
    have HB := hideIt hb
    clear hM hb
    by_cases hmn : m < n
    · have hmn' : (m : Int) < n := by omega
      have hmk := made_bits wr n (by omega)
      have HMa := hideIt (HM.out.alloc (.cells (madeCells #[.bool false] n) 4))
      have HN1 := hideIt (bits_made wr n)
      have hBl := HM.out.lt
      have hBs := HB.out.size
      obtain ⟨ov, hov⟩ := HMa.out.room m hmn
      have hfz := HMa.out.fz m
      have HB1 : Hid (Below w.heap.size w ((wr.alloc (.cells (madeCells #[.bool false] n) 4)).setCell ⟨w.heap.size, m, none⟩ (.slice (some ⟨wr.heap.size, 0, none⟩) n n))) := (belA HB.out _).setCell (p := ⟨w.heap.size, m, none⟩) (Nat.le_refl _) _
      have HM2 : Hid (MatAt ((wr.alloc (.cells (madeCells #[.bool false] n) 4)).setCell ⟨w.heap.size, m, none⟩ (.slice (some ⟨wr.heap.size, 0, none⟩) n n)) w.heap.size w.heap.size n (m + 1) (fun i => if i = m then wr.heap.size else cb i) (midB r m 0)) :=
        (HMa.out.add hmn HN1.out hBs (by omega) (fun i hi => Nat.ne_of_lt (HM.out.row i hi).lt)).same fun i k _ _ => by
          unfold midB
          by_cases e : i = m
          · rw [if_pos e, if_pos ⟨e, Nat.zero_le _⟩]
          · rw [if_neg e, if_neg (fun h => e h.1)]
      rw [World.setCell_alloc_past _ _ _ _ hBl] at HM2 HB1
      have hc2 := HM2.out.head m (Nat.lt_succ_self m)
      rw [if_pos rfl] at hc2
      clear HMa HN1 HM
      go_wp2
      clear hmk hov hfz hc2
      generalize (wr.setCell _ _).alloc _ = W2 at HB1 HM2 ⊢
      obtain ⟨cb1, HM2⟩ : ∃ cb1, Hid (MatAt W2 w.heap.size w.heap.size n (m + 1) cb1 (midB r m 0)) := ⟨_, HM2⟩
      clear HB hBl hBs
      go_loopw [33] (fun v wz => ∃ k : Nat, k ≤ n ∧ v = .int .i64 k ∧ MatAt wz w.heap.size w.heap.size n (m + 1) cb1 (midB r m k) ∧ Below w.heap.size w wz) (fun v _ => n - (intOf v).toNat)
      case atStart => exact ⟨0, Nat.zero_le _, rfl, HM2.out, HB1.out⟩
      case round =>
        clear HM2 HB1
        obtain ⟨k, hk, rfl, hM, hb⟩ := hrel
        have HM := hideIt hM
        have HB := hideIt hb
        clear hM hb
        by_cases hkn : k < n
        · have hkn' : (k : Int) < n := by omega
          have hge := (HM.out.from_ m (by omega)).1
          have HPut : Hid (∀ Z : World, Below wr.heap.size wr Z → (MatAt (Z.setCell ⟨cb1 m, k, none⟩ (.bool (r m k))) w.heap.size w.heap.size n (m + 1) cb1 (midB r m (k + 1)) ∧ Below w.heap.size w (Z.setCell ⟨cb1 m, k, none⟩ (.bool (r m k)))) ∧ Z.cell? ⟨cb1 m, k, none⟩ = some (.bool (midB r m k m k)) ∧ Z.frozen? ⟨cb1 m, k, none⟩ = false) := fun Z hZ =>
            ⟨⟨((HM.out.below hZ).put (by omega) hkn _).same fun i b _ _ => midB_put r m k _ rfl i b, (belJ HB.out hZ).setCell (p := ⟨cb1 m, k, none⟩) hge _⟩, ((HM.out.below hZ).row m (by omega)).bit k hkn, ((HM.out.below hZ).row m (by omega)).fz k⟩
          have HC0 : Hid (∀ Z, Below wr.heap.size wr Z → Z.cell? ⟨w.heap.size, m, none⟩ = some (.slice (some ⟨cb1 m, 0, none⟩) n n)) := fun Z hZ => (HM.out.below hZ).head m (by omega)
          have HFk : Hid (∀ Z, Below wr.heap.size wr Z → Calls Tryd.prog f (#[.int .i64 (m : Int), .int .i64 (k : Int)] ++ caps) Z fun e w' => e = .returned (.bool (r m k)) ∧ w' = Z) := fun Z hZ => HF.out Z (belJ HB.out hZ) m k hmn hkn
          go_wp2_with fail
          refine wp_region_L (B := [10]) (S := fun _ => True) (T := fun Z => Below wr.heap.size wr Z) (by kernel_rfl) ⟨trivial, (Below.refl _ _).drew⟩ (fun hHeld => ?_)
          refine wpAnyL_takeS (i := 0) (v := ?_) rfl (by kernel_rfl) (by kernel_rfl) (by kernel_rfl) (by kernel_rfl) (fun _ _ _ h => h) (Or.inl ⟨by rfl, ?_⟩) (by assumption) ?_
          rotate_left 1
          · intro wz _
            go_simp
            all_goals with_reducible rfl
          simp only [Act.put, List.setIfInBounds_toArray, List.set_cons_zero, List.set_cons_succ, List.getElem_toArray, List.getElem_cons_zero]
          refine wpAnyL_takeS (i := 1) (v := ?_) rfl (by kernel_rfl) (by kernel_rfl) (by kernel_rfl) (by kernel_rfl) (fun _ _ _ h => h) (Or.inl ⟨by rfl, ?_⟩) (by assumption) ?_
          rotate_left 1
          · intro wz _
            go_simp
            all_goals with_reducible rfl
          simp only [Act.put, List.setIfInBounds_toArray, List.set_cons_zero, List.set_cons_succ, List.getElem_toArray, List.getElem_cons_zero, List.getElem_cons_succ]
          refine wpAnyL_takeS (i := 2) (v := ?_) rfl (by kernel_rfl) (by kernel_rfl) (by kernel_rfl) (by kernel_rfl) (fun _ _ _ h => h) (Or.inl ⟨by rfl, ?_⟩) (by assumption) ?_
          rotate_left 1
          · intro wz _
            go_simp
            all_goals with_reducible rfl
          simp only [Act.put, List.setIfInBounds_toArray, List.set_cons_zero, List.set_cons_succ, List.getElem_toArray, List.getElem_cons_zero, List.getElem_cons_succ]
          refine wpAnyL_take [9, 10] (i := 3) (v := ?_) rfl (by kernel_rfl) (by kernel_rfl) (by kernel_rfl) (by kernel_rfl) (fun _ _ _ h => h) (Or.inl ⟨by rfl, ?_⟩) (by assumption) ?_
          rotate_left 1
          · intro wz sb
            have y0 := HC0.out wz sb.2
            go_simp
            all_goals with_reducible rfl
          simp only [Act.put, List.setIfInBounds_toArray, List.set_cons_zero, List.set_cons_succ, List.getElem_toArray, List.getElem_cons_zero, List.getElem_cons_succ]
          refine wpAnyL_takeS (i := 4) (v := ?_) rfl (by kernel_rfl) (by kernel_rfl) (by kernel_rfl) (by kernel_rfl) (fun _ _ _ h => h) (Or.inl ⟨by rfl, ?_⟩) (by assumption) ?_
          rotate_left 1
          · intro wz _
            go_simp
            all_goals with_reducible rfl
          simp only [Act.put, List.setIfInBounds_toArray, List.set_cons_zero, List.set_cons_succ, List.getElem_toArray, List.getElem_cons_zero, List.getElem_cons_succ]
          refine wpAnyL_takeS (i := 5) (v := ?_) rfl (by kernel_rfl) (by kernel_rfl) (by kernel_rfl) (by kernel_rfl) (fun _ _ _ h => h) (Or.inl ⟨by rfl, ?_⟩) (by assumption) ?_
          rotate_left 1
          · intro wz _
            go_simp
            all_goals with_reducible rfl
          simp only [Act.put, List.setIfInBounds_toArray, List.set_cons_zero, List.set_cons_succ, List.getElem_toArray, List.getElem_cons_zero, List.getElem_cons_succ]
          refine wpAnyL_takeS (i := 6) (v := ?_) rfl (by kernel_rfl) (by kernel_rfl) (by kernel_rfl) (by kernel_rfl) (fun _ _ _ h => h) (Or.inl ⟨by rfl, ?_⟩) (by assumption) ?_
          rotate_left 1
          · intro wz _
            go_simp
            all_goals with_reducible rfl
          simp only [Act.put, List.setIfInBounds_toArray, List.set_cons_zero, List.set_cons_succ, List.getElem_toArray, List.getElem_cons_zero, List.getElem_cons_succ]
          refine wpAnyL_takeS (i := 7) (v := ?_) rfl (by kernel_rfl) (by kernel_rfl) (by kernel_rfl) (by kernel_rfl) (fun _ _ _ h => h) (Or.inl ⟨by rfl, ?_⟩) (by assumption) ?_
          rotate_left 1
          · intro wz _
            go_simp
            all_goals with_reducible rfl
          simp only [Act.put, List.setIfInBounds_toArray, List.set_cons_zero, List.set_cons_succ, List.getElem_toArray, List.getElem_cons_zero, List.getElem_cons_succ]
          have egk := eg (#[.int .i64 (m : Int), .int .i64 (k : Int)] ++ caps) wr.drew
          refine wpAnyL_ready (rs := [8]) (by kernel_rfl) (by simp) (AllReadyL.cons rfl (fun K hK => ?_) AllReadyL.nil)
          go_simp
          refine (HFk.out _ hHeld.2).mono ?_
          rintro e V3 ⟨rfl, rfl⟩
          refine hK.out _ _ ⟨trivial, hHeld.2⟩ (fun hHeld => ?_)
          clear hK K
          refine wpAnyL_takeS (i := 9) (v := ?_) rfl (by kernel_rfl) (by kernel_rfl) (by kernel_rfl) (by kernel_rfl) (fun _ _ _ h => h) (Or.inl ⟨by rfl, ?_⟩) (by assumption) ?_
          rotate_left 1
          · intro wz _
            go_simp
            all_goals with_reducible rfl
          simp only [Act.put, List.setIfInBounds_toArray, List.set_cons_zero, List.set_cons_succ, List.getElem_toArray, List.getElem_cons_zero, List.getElem_cons_succ]
          obtain ⟨hp1, hp2, hp3⟩ := HPut.out _ hHeld.2
          have R1 := hideIt hp1
          clear hp1 HPut HC0 HFk
          generalize midB r m k m k = old at hp2
          refine wpAnyL_ready (rs := [10]) (by kernel_rfl) (by simp) (AllReadyL.last rfl (by kernel_rfl) (fun K hK => ?_) AllReadyL.nil)
          go_simp
          refine hK.out _ _ trivial (fun _ => ?_)
          clear hK K hHeld
          refine wpAnyL_done (by kernel_rfl) ?_ _
          go_wp2
          go_roundw
          case rel => exact ⟨k + 1, by omega, by go_num, R1.out⟩
          case measure => simp [intOf]; omega
        · obtain rfl : k = n := by omega
          have R1 : Hid (MatAt wr w.heap.size w.heap.size k (m + 1) cb1 r) := HM.out.same fun i b _ hb => midB_end _ _ _ _ _ hb
          go_wp2
          go_roundw
          case rel => exact ⟨m + 1, cb1, by omega, by go_num, R1.out, HB.out⟩
          case measure => simp [intOf]; omega
    · obtain rfl : m = n := by omega
      go_wp2
      go_ret2
      exact ⟨_, rfl, HM.out.links, HB.out⟩
end Go.Proofs.YtggdjongbmdefaaDoor
