/-
  strings.IndexRune in the brackets, the comma and the blank, at a rune beyond ASCII: it is not there.
-/
import Derived.Test.YthblokfiojccmaaGreatDoorLbW
import Derived.Laws.RangeAny
import Derived.Laws.Runes
import Derived.WalkMore
import Derived.Deep.RegionHeld3
import Derived.Shelf.Small.Utf8
import Derived.Shelf.Strings.Search1
namespace Go.Proofs.YthblokfiojccmaaGreatDoor.Gn
open Go.RowKit Go.Shelf

def seps : Bt := [40, 41, 44, 32]
theorem enc_hb (n : Nat) (h1 : 128 ≤ n) (h2 : n < 256) : 128 ≤ (UInt8.ofNat n).toNat := by
  rw [UInt8.toNat_ofNat']; omega
theorem val_lt (r : Nat) : (if Utf8.valid (r : Int) = true then (r : Int).toNat else Utf8.runeError) < 1114112 := by
  split
  · rename_i hv
    simp only [Utf8.valid, Bool.or_eq_true, Bool.and_eq_true, decide_eq_true_eq] at hv
    omega
  · decide
theorem val_ge (r : Nat) (h : 128 ≤ r) : 128 ≤ (if Utf8.valid (r : Int) = true then (r : Int).toNat else Utf8.runeError) := by
  split
  · omega
  · decide
def HiB (b : ByteArray) (m : Nat) : Prop := b.size = m + 1 ∧ ∀ k (hk : k < b.size), 128 ≤ (b[k]'hk).toNat
theorem hi2 (x y : UInt8) (hx : 128 ≤ x.toNat) (hy : 128 ≤ y.toNat) : HiB ⟨#[x, y]⟩ 1 := ⟨rfl, fun k hk => by
  match k, hk with
  | 0, _ => exact hx
  | 1, _ => exact hy⟩
theorem hi3 (x y z : UInt8) (hx : 128 ≤ x.toNat) (hy : 128 ≤ y.toNat) (hz : 128 ≤ z.toNat) : HiB ⟨#[x, y, z]⟩ 2 := ⟨rfl, fun k hk => by
  match k, hk with
  | 0, _ => exact hx
  | 1, _ => exact hy
  | 2, _ => exact hz⟩
theorem hi4 (x y z u : UInt8) (hx : 128 ≤ x.toNat) (hy : 128 ≤ y.toNat) (hz : 128 ≤ z.toNat) (hu : 128 ≤ u.toNat) : HiB ⟨#[x, y, z, u]⟩ 3 := ⟨rfl, fun k hk => by
  match k, hk with
  | 0, _ => exact hx
  | 1, _ => exact hy
  | 2, _ => exact hz
  | 3, _ => exact hu⟩
theorem enc_form (r : Nat) (h : 128 ≤ r) : ∃ m, 1 ≤ m ∧ m ≤ 3 ∧ HiB (Utf8.encode (r : Int)) m := by
  have h0 := val_ge r h
  have h1 := val_lt r
  unfold Utf8.encode
  generalize (if Utf8.valid (r : Int) = true then (r : Int).toNat else Utf8.runeError) = c at *
  simp only
  rw [if_neg (by omega)]
  split
  · exact ⟨1, by omega, by omega, hi2 _ _ (enc_hb _ (by omega) (by omega)) (enc_hb _ (by omega) (by omega))⟩
  · split
    · exact ⟨2, by omega, by omega, hi3 _ _ _ (enc_hb _ (by omega) (by omega)) (enc_hb _ (by omega) (by omega)) (enc_hb _ (by omega) (by omega))⟩
    · exact ⟨3, by omega, by omega, hi4 _ _ _ _ (enc_hb _ (by omega) (by omega)) (enc_hb _ (by omega) (by omega)) (enc_hb _ (by omega) (by omega)) (enc_hb _ (by omega) (by omega))⟩

theorem indexByte_none (l : Bt) (y : UInt8) (hy : 128 ≤ y.toNat) (hl : ∀ x ∈ l, x.toNat < 128) : Lib.indexByte l y = -1 := by
  induction l with
  | nil => rfl
  | cons x l ih =>
    have hx := hl x (by simp)
    have hne : (x == y) = false := by
      rw [beq_eq_false_iff_ne]; intro e; subst e; omega
    simp only [Lib.indexByte, hne]
    rw [ih (fun z hz => hl z (by simp [hz]))]
    simp

set_option maxHeartbeats 4000000 in
set_option maxRecDepth 100000 in
theorem indexRune_v1 (r : Nat) (b : ByteArray) (w : World) (h0 : 128 ≤ r) (q3 : ((r : Int) == 65533) = false) (hb : Utf8.encode (r : Int) = b) (hsz : (b.size : Int) - 1 = 1) (y : UInt8) (hmb : 1 < b.size) (hy : b[1]'hmb = y) (hy1 : 128 ≤ y.toNat)
    (HV : Hid (∀ W, Calls Tryz.prog 48 #[.int .i32 (r : Int)] W fun e w' => e = .returned (.bool true) ∧ w' = W))
    (HIx : Hid (∀ (l : Bt) (y : UInt8) (W : World), 128 ≤ y.toNat → (∀ x ∈ l, x.toNat < 128) → Calls Tryz.prog 47 #[.string (ba l), .int .u8 (y.toNat : Int)] W fun e w' => e = .returned (.int .i64 (-1)) ∧ w' = W)) :
    Calls Tryz.prog 36 #[.string ⟨#[40, 41, 44, 32]⟩, .int .i32 (r : Int)] w fun e w' => e = .returned (.int .i64 (-1)) ∧ Fr [] w w' := by
  have q1 : ¬ ((r : Int) < 128) := by omega
  have q2 : (0 : Int) ≤ (r : Int) := by omega
  have e1 : (((ByteArray.mk #[40, 41, 44, 32])[1]'(by decide)).toNat : Int) = 41 := rfl
  have n1 : (((((ByteArray.mk #[40, 41, 44, 32])[1]'(by decide)).toNat : Int)) != (y.toNat : Int)) = true := by rw [e1]; simp; omega
  clear e1
  have hmi : (1 : Int) < (b.size : Int) := by omega
  have hw1 : IntKind.i64.wrap 2 = 2 := by decide
  have hex : (ByteArray.mk #[40, 41, 44, 32]).extract 2 4 = ba [44, 32] := by decide
  have HK := hideIt (fun W => HIx.out [44, 32] y W hy1 (by decide))
  clear HIx
  go_enter Tryz.func36, Tryz.ntmps36
  go_wp2_with fail
  refine (HV.out _).mono ?_
  rintro z w1 ⟨rfl, rfl⟩
  go_wp2_with fail
  go_step3
  go_wp2_with fail
  go_loopg [9, 10] 1 (fun _ s9 s10 wx => s9 = .int .i64 1 ∧ s10 = .int .i64 0 ∧ wx = w1)
  case atStart => exact ⟨by first | rfl | (rw [hsz]), rfl, rfl⟩
  case round =>
    obtain ⟨rfl, rfl, rfl⟩ := hrel
    go_wp2_with fail
    go_step3
    go_wp2_with fail
    go_quiet (fail)
    generalize hyy : (y.toNat : Int) = yy at *
    go_wp2_with fail
    refine wp_region_held_drew (S := fun _ => True) (by kernel_rfl) trivial (fun hHeld => ?_)
    refine wpAnyH_take (i := 0) (v := ?_) rfl (by kernel_rfl) (by kernel_rfl) (by kernel_rfl) (fun _ _ _ h => h) (Or.inl ⟨by rfl, ?_⟩) (by assumption) ?_
    rotate_left 1
    · intro wz hwz
      go_simp
      all_goals with_reducible rfl
    simp only [Act.put, List.setIfInBounds_toArray, List.set_cons_zero, List.set_cons_succ, List.getElem_toArray, List.getElem_cons_zero]
    refine wpAnyH_take (i := 1) (v := ?_) rfl (by kernel_rfl) (by kernel_rfl) (by kernel_rfl) (fun _ _ _ h => h) (Or.inl ⟨by rfl, ?_⟩) (by assumption) ?_
    rotate_left 1
    · intro wz hwz
      go_simp
      all_goals with_reducible rfl
    simp only [Act.put, List.setIfInBounds_toArray, List.set_cons_zero, List.set_cons_succ, List.getElem_toArray, List.getElem_cons_zero, List.getElem_cons_succ]
    refine wpAnyH_take (i := 2) (v := ?_) rfl (by kernel_rfl) (by kernel_rfl) (by kernel_rfl) (fun _ _ _ h => h) (Or.inl ⟨by rfl, ?_⟩) (by assumption) ?_
    rotate_left 1
    · intro wz hwz
      go_simp
      all_goals with_reducible rfl
    simp only [Act.put, List.setIfInBounds_toArray, List.set_cons_zero, List.set_cons_succ, List.getElem_toArray, List.getElem_cons_zero, List.getElem_cons_succ]
    refine wpAnyH_take (i := 3) (v := ?_) rfl (by kernel_rfl) (by kernel_rfl) (by kernel_rfl) (fun _ _ _ h => h) (Or.inl ⟨by rfl, ?_⟩) (by assumption) ?_
    rotate_left 1
    · intro wz hwz
      go_simp
      all_goals with_reducible rfl
    simp only [Act.put, List.setIfInBounds_toArray, List.set_cons_zero, List.set_cons_succ, List.getElem_toArray, List.getElem_cons_zero, List.getElem_cons_succ]
    refine wpAnyH_take (i := 4) (v := ?_) rfl (by kernel_rfl) (by kernel_rfl) (by kernel_rfl) (fun _ _ _ h => h) (Or.inl ⟨by rfl, ?_⟩) (by assumption) ?_
    rotate_left 1
    · intro wz hwz
      go_simp
      all_goals with_reducible rfl
    simp only [Act.put, List.setIfInBounds_toArray, List.set_cons_zero, List.set_cons_succ, List.getElem_toArray, List.getElem_cons_zero, List.getElem_cons_succ]
    refine wpAnyH_take (i := 5) (v := ?_) rfl (by kernel_rfl) (by kernel_rfl) (by kernel_rfl) (fun _ _ _ h => h) (Or.inl ⟨by rfl, ?_⟩) (by assumption) ?_
    rotate_left 1
    · intro wz hwz
      go_simp
      all_goals with_reducible rfl
    simp only [Act.put, List.setIfInBounds_toArray, List.set_cons_zero, List.set_cons_succ, List.getElem_toArray, List.getElem_cons_zero, List.getElem_cons_succ]
    refine wpAnyH_take (i := 6) (v := ?_) rfl (by kernel_rfl) (by kernel_rfl) (by kernel_rfl) (fun _ _ _ h => h) (Or.inl ⟨by rfl, ?_⟩) (by assumption) ?_
    rotate_left 1
    · intro wz hwz
      go_simp
      all_goals with_reducible rfl
    simp only [Act.put, List.setIfInBounds_toArray, List.set_cons_zero, List.set_cons_succ, List.getElem_toArray, List.getElem_cons_zero, List.getElem_cons_succ]
    refine wpAnyH_ready (rs := [7]) (by kernel_rfl) (by simp) (AllReadyH.cons rfl (fun K hK => ?_) AllReadyH.nil)
    go_simp
    refine (HK.out _).mono ?_
    rintro z w2 ⟨rfl, rfl⟩
    refine hK.out _ _ ?_ (fun hHeld => ?_)
    · trivial
    clear hK K
    refine wpAnyH_take (i := 8) (v := ?_) rfl (by kernel_rfl) (by kernel_rfl) (by kernel_rfl) (fun _ _ _ h => h) (Or.inl ⟨by rfl, ?_⟩) (by assumption) ?_
    rotate_left 1
    · intro wz hwz
      go_simp
      all_goals with_reducible rfl
    simp only [Act.put, List.setIfInBounds_toArray, List.set_cons_zero, List.set_cons_succ, List.getElem_toArray, List.getElem_cons_zero, List.getElem_cons_succ]
    refine wpAnyH_done (by kernel_rfl) ?_ _
    go_wp2
    rw [Exit.noGoto_ret]
    go_wp2
    rw [Exit.noGoto_ret]
    go_wp2
    go_ret
    exact ⟨rfl, Fr.drewN _ _ _⟩

set_option maxHeartbeats 4000000 in
set_option maxRecDepth 100000 in
theorem indexRune_v2 (r : Nat) (b : ByteArray) (w : World) (h0 : 128 ≤ r) (q3 : ((r : Int) == 65533) = false) (hb : Utf8.encode (r : Int) = b) (hsz : (b.size : Int) - 1 = 2) (y : UInt8) (hmb : 2 < b.size) (hy : b[2]'hmb = y) (hy1 : 128 ≤ y.toNat)
    (HV : Hid (∀ W, Calls Tryz.prog 48 #[.int .i32 (r : Int)] W fun e w' => e = .returned (.bool true) ∧ w' = W))
    (HIx : Hid (∀ (l : Bt) (y : UInt8) (W : World), 128 ≤ y.toNat → (∀ x ∈ l, x.toNat < 128) → Calls Tryz.prog 47 #[.string (ba l), .int .u8 (y.toNat : Int)] W fun e w' => e = .returned (.int .i64 (-1)) ∧ w' = W)) :
    Calls Tryz.prog 36 #[.string ⟨#[40, 41, 44, 32]⟩, .int .i32 (r : Int)] w fun e w' => e = .returned (.int .i64 (-1)) ∧ Fr [] w w' := by
  have q1 : ¬ ((r : Int) < 128) := by omega
  have q2 : (0 : Int) ≤ (r : Int) := by omega
  have e1 : (((ByteArray.mk #[40, 41, 44, 32])[2]'(by decide)).toNat : Int) = 44 := rfl
  have n1 : (((((ByteArray.mk #[40, 41, 44, 32])[2]'(by decide)).toNat : Int)) != (y.toNat : Int)) = true := by rw [e1]; simp; omega
  clear e1
  have hmi : (2 : Int) < (b.size : Int) := by omega
  have hw2 : IntKind.i64.wrap 3 = 3 := by decide
  have hex : (ByteArray.mk #[40, 41, 44, 32]).extract 3 4 = ba [32] := by decide
  have HK := hideIt (fun W => HIx.out [32] y W hy1 (by decide))
  clear HIx
  go_enter Tryz.func36, Tryz.ntmps36
  go_wp2_with fail
  refine (HV.out _).mono ?_
  rintro z w1 ⟨rfl, rfl⟩
  go_wp2_with fail
  go_step3
  go_wp2_with fail
  go_loopg [9, 10] 1 (fun _ s9 s10 wx => s9 = .int .i64 2 ∧ s10 = .int .i64 0 ∧ wx = w1)
  case atStart => exact ⟨by first | rfl | (rw [hsz]), rfl, rfl⟩
  case round =>
    obtain ⟨rfl, rfl, rfl⟩ := hrel
    go_wp2_with fail
    go_step3
    go_wp2_with fail
    go_quiet (fail)
    generalize hyy : (y.toNat : Int) = yy at *
    go_wp2_with fail
    refine wp_region_held_drew (S := fun _ => True) (by kernel_rfl) trivial (fun hHeld => ?_)
    refine wpAnyH_take (i := 0) (v := ?_) rfl (by kernel_rfl) (by kernel_rfl) (by kernel_rfl) (fun _ _ _ h => h) (Or.inl ⟨by rfl, ?_⟩) (by assumption) ?_
    rotate_left 1
    · intro wz hwz
      go_simp
      all_goals with_reducible rfl
    simp only [Act.put, List.setIfInBounds_toArray, List.set_cons_zero, List.set_cons_succ, List.getElem_toArray, List.getElem_cons_zero]
    refine wpAnyH_take (i := 1) (v := ?_) rfl (by kernel_rfl) (by kernel_rfl) (by kernel_rfl) (fun _ _ _ h => h) (Or.inl ⟨by rfl, ?_⟩) (by assumption) ?_
    rotate_left 1
    · intro wz hwz
      go_simp
      all_goals with_reducible rfl
    simp only [Act.put, List.setIfInBounds_toArray, List.set_cons_zero, List.set_cons_succ, List.getElem_toArray, List.getElem_cons_zero, List.getElem_cons_succ]
    refine wpAnyH_take (i := 2) (v := ?_) rfl (by kernel_rfl) (by kernel_rfl) (by kernel_rfl) (fun _ _ _ h => h) (Or.inl ⟨by rfl, ?_⟩) (by assumption) ?_
    rotate_left 1
    · intro wz hwz
      go_simp
      all_goals with_reducible rfl
    simp only [Act.put, List.setIfInBounds_toArray, List.set_cons_zero, List.set_cons_succ, List.getElem_toArray, List.getElem_cons_zero, List.getElem_cons_succ]
    refine wpAnyH_take (i := 3) (v := ?_) rfl (by kernel_rfl) (by kernel_rfl) (by kernel_rfl) (fun _ _ _ h => h) (Or.inl ⟨by rfl, ?_⟩) (by assumption) ?_
    rotate_left 1
    · intro wz hwz
      go_simp
      all_goals with_reducible rfl
    simp only [Act.put, List.setIfInBounds_toArray, List.set_cons_zero, List.set_cons_succ, List.getElem_toArray, List.getElem_cons_zero, List.getElem_cons_succ]
    refine wpAnyH_take (i := 4) (v := ?_) rfl (by kernel_rfl) (by kernel_rfl) (by kernel_rfl) (fun _ _ _ h => h) (Or.inl ⟨by rfl, ?_⟩) (by assumption) ?_
    rotate_left 1
    · intro wz hwz
      go_simp
      all_goals with_reducible rfl
    simp only [Act.put, List.setIfInBounds_toArray, List.set_cons_zero, List.set_cons_succ, List.getElem_toArray, List.getElem_cons_zero, List.getElem_cons_succ]
    refine wpAnyH_take (i := 5) (v := ?_) rfl (by kernel_rfl) (by kernel_rfl) (by kernel_rfl) (fun _ _ _ h => h) (Or.inl ⟨by rfl, ?_⟩) (by assumption) ?_
    rotate_left 1
    · intro wz hwz
      go_simp
      all_goals with_reducible rfl
    simp only [Act.put, List.setIfInBounds_toArray, List.set_cons_zero, List.set_cons_succ, List.getElem_toArray, List.getElem_cons_zero, List.getElem_cons_succ]
    refine wpAnyH_take (i := 6) (v := ?_) rfl (by kernel_rfl) (by kernel_rfl) (by kernel_rfl) (fun _ _ _ h => h) (Or.inl ⟨by rfl, ?_⟩) (by assumption) ?_
    rotate_left 1
    · intro wz hwz
      go_simp
      all_goals with_reducible rfl
    simp only [Act.put, List.setIfInBounds_toArray, List.set_cons_zero, List.set_cons_succ, List.getElem_toArray, List.getElem_cons_zero, List.getElem_cons_succ]
    refine wpAnyH_ready (rs := [7]) (by kernel_rfl) (by simp) (AllReadyH.cons rfl (fun K hK => ?_) AllReadyH.nil)
    go_simp
    refine (HK.out _).mono ?_
    rintro z w2 ⟨rfl, rfl⟩
    refine hK.out _ _ ?_ (fun hHeld => ?_)
    · trivial
    clear hK K
    refine wpAnyH_take (i := 8) (v := ?_) rfl (by kernel_rfl) (by kernel_rfl) (by kernel_rfl) (fun _ _ _ h => h) (Or.inl ⟨by rfl, ?_⟩) (by assumption) ?_
    rotate_left 1
    · intro wz hwz
      go_simp
      all_goals with_reducible rfl
    simp only [Act.put, List.setIfInBounds_toArray, List.set_cons_zero, List.set_cons_succ, List.getElem_toArray, List.getElem_cons_zero, List.getElem_cons_succ]
    refine wpAnyH_done (by kernel_rfl) ?_ _
    go_wp2
    rw [Exit.noGoto_ret]
    go_wp2
    rw [Exit.noGoto_ret]
    go_wp2
    go_ret
    exact ⟨rfl, Fr.drewN _ _ _⟩

set_option maxHeartbeats 4000000 in
set_option maxRecDepth 100000 in
theorem indexRune_v3 (r : Nat) (b : ByteArray) (w : World) (h0 : 128 ≤ r) (q3 : ((r : Int) == 65533) = false) (hb : Utf8.encode (r : Int) = b) (hsz : (b.size : Int) - 1 = 3) (y : UInt8) (hmb : 3 < b.size) (hy : b[3]'hmb = y) (hy1 : 128 ≤ y.toNat)
    (HV : Hid (∀ W, Calls Tryz.prog 48 #[.int .i32 (r : Int)] W fun e w' => e = .returned (.bool true) ∧ w' = W))
    (HIx : Hid (∀ (l : Bt) (y : UInt8) (W : World), 128 ≤ y.toNat → (∀ x ∈ l, x.toNat < 128) → Calls Tryz.prog 47 #[.string (ba l), .int .u8 (y.toNat : Int)] W fun e w' => e = .returned (.int .i64 (-1)) ∧ w' = W)) :
    Calls Tryz.prog 36 #[.string ⟨#[40, 41, 44, 32]⟩, .int .i32 (r : Int)] w fun e w' => e = .returned (.int .i64 (-1)) ∧ Fr [] w w' := by
  have q1 : ¬ ((r : Int) < 128) := by omega
  have q2 : (0 : Int) ≤ (r : Int) := by omega
  have e1 : (((ByteArray.mk #[40, 41, 44, 32])[3]'(by decide)).toNat : Int) = 32 := rfl
  have n1 : (((((ByteArray.mk #[40, 41, 44, 32])[3]'(by decide)).toNat : Int)) != (y.toNat : Int)) = true := by rw [e1]; simp; omega
  clear e1
  have hmi : (3 : Int) < (b.size : Int) := by omega
  have hw3 : IntKind.i64.wrap 4 = 4 := by decide
  have hex : (ByteArray.mk #[40, 41, 44, 32]).extract 4 4 = ba [] := by decide
  have HK := hideIt (fun W => HIx.out [] y W hy1 (by decide))
  clear HIx
  go_enter Tryz.func36, Tryz.ntmps36
  go_wp2_with fail
  refine (HV.out _).mono ?_
  rintro z w1 ⟨rfl, rfl⟩
  go_wp2_with fail
  go_step3
  go_wp2_with fail
  go_loopg [9, 10] 1 (fun _ s9 s10 wx => s9 = .int .i64 3 ∧ s10 = .int .i64 0 ∧ wx = w1)
  case atStart => exact ⟨by first | rfl | (rw [hsz]), rfl, rfl⟩
  case round =>
    obtain ⟨rfl, rfl, rfl⟩ := hrel
    go_wp2_with fail
    go_step3
    go_wp2_with fail
    go_quiet (fail)
    generalize hyy : (y.toNat : Int) = yy at *
    go_wp2_with fail
    refine wp_region_held_drew (S := fun _ => True) (by kernel_rfl) trivial (fun hHeld => ?_)
    refine wpAnyH_take (i := 0) (v := ?_) rfl (by kernel_rfl) (by kernel_rfl) (by kernel_rfl) (fun _ _ _ h => h) (Or.inl ⟨by rfl, ?_⟩) (by assumption) ?_
    rotate_left 1
    · intro wz hwz
      go_simp
      all_goals with_reducible rfl
    simp only [Act.put, List.setIfInBounds_toArray, List.set_cons_zero, List.set_cons_succ, List.getElem_toArray, List.getElem_cons_zero]
    refine wpAnyH_take (i := 1) (v := ?_) rfl (by kernel_rfl) (by kernel_rfl) (by kernel_rfl) (fun _ _ _ h => h) (Or.inl ⟨by rfl, ?_⟩) (by assumption) ?_
    rotate_left 1
    · intro wz hwz
      go_simp
      all_goals with_reducible rfl
    simp only [Act.put, List.setIfInBounds_toArray, List.set_cons_zero, List.set_cons_succ, List.getElem_toArray, List.getElem_cons_zero, List.getElem_cons_succ]
    refine wpAnyH_take (i := 2) (v := ?_) rfl (by kernel_rfl) (by kernel_rfl) (by kernel_rfl) (fun _ _ _ h => h) (Or.inl ⟨by rfl, ?_⟩) (by assumption) ?_
    rotate_left 1
    · intro wz hwz
      go_simp
      all_goals with_reducible rfl
    simp only [Act.put, List.setIfInBounds_toArray, List.set_cons_zero, List.set_cons_succ, List.getElem_toArray, List.getElem_cons_zero, List.getElem_cons_succ]
    refine wpAnyH_take (i := 3) (v := ?_) rfl (by kernel_rfl) (by kernel_rfl) (by kernel_rfl) (fun _ _ _ h => h) (Or.inl ⟨by rfl, ?_⟩) (by assumption) ?_
    rotate_left 1
    · intro wz hwz
      go_simp
      all_goals with_reducible rfl
    simp only [Act.put, List.setIfInBounds_toArray, List.set_cons_zero, List.set_cons_succ, List.getElem_toArray, List.getElem_cons_zero, List.getElem_cons_succ]
    refine wpAnyH_take (i := 4) (v := ?_) rfl (by kernel_rfl) (by kernel_rfl) (by kernel_rfl) (fun _ _ _ h => h) (Or.inl ⟨by rfl, ?_⟩) (by assumption) ?_
    rotate_left 1
    · intro wz hwz
      go_simp
      all_goals with_reducible rfl
    simp only [Act.put, List.setIfInBounds_toArray, List.set_cons_zero, List.set_cons_succ, List.getElem_toArray, List.getElem_cons_zero, List.getElem_cons_succ]
    refine wpAnyH_take (i := 5) (v := ?_) rfl (by kernel_rfl) (by kernel_rfl) (by kernel_rfl) (fun _ _ _ h => h) (Or.inl ⟨by rfl, ?_⟩) (by assumption) ?_
    rotate_left 1
    · intro wz hwz
      go_simp
      all_goals with_reducible rfl
    simp only [Act.put, List.setIfInBounds_toArray, List.set_cons_zero, List.set_cons_succ, List.getElem_toArray, List.getElem_cons_zero, List.getElem_cons_succ]
    refine wpAnyH_take (i := 6) (v := ?_) rfl (by kernel_rfl) (by kernel_rfl) (by kernel_rfl) (fun _ _ _ h => h) (Or.inl ⟨by rfl, ?_⟩) (by assumption) ?_
    rotate_left 1
    · intro wz hwz
      go_simp
      all_goals with_reducible rfl
    simp only [Act.put, List.setIfInBounds_toArray, List.set_cons_zero, List.set_cons_succ, List.getElem_toArray, List.getElem_cons_zero, List.getElem_cons_succ]
    refine wpAnyH_ready (rs := [7]) (by kernel_rfl) (by simp) (AllReadyH.cons rfl (fun K hK => ?_) AllReadyH.nil)
    go_simp
    refine (HK.out _).mono ?_
    rintro z w2 ⟨rfl, rfl⟩
    refine hK.out _ _ ?_ (fun hHeld => ?_)
    · trivial
    clear hK K
    refine wpAnyH_take (i := 8) (v := ?_) rfl (by kernel_rfl) (by kernel_rfl) (by kernel_rfl) (fun _ _ _ h => h) (Or.inl ⟨by rfl, ?_⟩) (by assumption) ?_
    rotate_left 1
    · intro wz hwz
      go_simp
      all_goals with_reducible rfl
    simp only [Act.put, List.setIfInBounds_toArray, List.set_cons_zero, List.set_cons_succ, List.getElem_toArray, List.getElem_cons_zero, List.getElem_cons_succ]
    refine wpAnyH_done (by kernel_rfl) ?_ _
    go_wp2
    rw [Exit.noGoto_ret]
    go_wp2
    rw [Exit.noGoto_ret]
    go_wp2
    go_ret
    exact ⟨rfl, Fr.drewN _ _ _⟩

set_option maxHeartbeats 4000000 in
set_option maxRecDepth 100000 in
theorem indexRune_high (r : Nat) (w : World) (h0 : 128 ≤ r) (h1 : r ≤ 2147483647) :
    Calls Tryz.prog 36 #[.string ⟨#[40, 41, 44, 32]⟩, .int .i32 (r : Int)] w fun e w' => e = .returned (.int .i64 (-1)) ∧ Fr [] w w' := by
  have q1 : ¬ ((r : Int) < 128) := by omega
  have q2 : (0 : Int) ≤ (r : Int) := by omega
  by_cases he : r = 65533
  · subst he
    go_enter Tryz.func36, Tryz.ntmps36
    go_wp2_with fail
    go_loopg [5, 6] 4 (fun g _ _ wx => ∃ i : Nat, i + g = 4 ∧ wx = w.iter ⟨#[40, 41, 44, 32]⟩ i)
    case atStart => exact ⟨0, by omega, rfl⟩
    case round =>
      obtain ⟨i, hig, rfl⟩ := hrel
      cases gk with
      | zero =>
        obtain rfl : i = 4 := by omega
        have hnx := run_next_end (P := Tryz.prog) w ⟨#[40, 41, 44, 32]⟩ 4
        have hnx := fun ty => hnx ty (by decide)
        go_wp2
        go_ret
        exact ⟨rfl, Fr.alloc [] w (.stringIter ⟨#[40, 41, 44, 32]⟩ 4)⟩
      | succ g =>
        have hi : i < (ByteArray.mk #[40, 41, 44, 32]).size := by show i < 4; omega
        obtain ⟨x, hx⟩ : ∃ x : UInt8, (ByteArray.mk #[40, 41, 44, 32])[i]'hi = x := ⟨_, rfl⟩
        have hx1 : x.toNat < 128 := by
          rw [← hx]
          have h4 : i < 4 := hi
          match i, h4 with
          | 0, _ => exact (by decide : (40 : UInt8).toNat < 128)
          | 1, _ => exact (by decide : (41 : UInt8).toNat < 128)
          | 2, _ => exact (by decide : (44 : UInt8).toNat < 128)
          | 3, _ => exact (by decide : (32 : UInt8).toNat < 128)
        have hnx := fun ty => run_next_ascii (P := Tryz.prog) w ⟨#[40, 41, 44, 32]⟩ i ty hi (by rw [hx]; exact hx1)
        rw [hx] at hnx
        have hne : ((x.toNat : Int) == 65533) = false := by simp; omega
        clear hx
        go_wp2
        go_roundg g
        case measure => omega
        case rel => exact ⟨i + 1, by omega, rfl⟩
  · have q3 : ((r : Int) == 65533) = false := by simp; omega
    obtain ⟨m, m1, m2, hsz, hall⟩ := enc_form r h0
    have HAll := hideIt hall
    clear hall
    have HV := hideIt (fun W => Any.utf8_ValidRune { gn_lays152 with } (r : Int) W)
    have HIx : Hid (∀ (l : Bt) (y : UInt8) (W : World), 128 ≤ y.toNat → (∀ x ∈ l, x.toNat < 128) → Calls Tryz.prog 47 #[.string (ba l), .int .u8 (y.toNat : Int)] W fun e w' => e = .returned (.int .i64 (-1)) ∧ w' = W) := hideIt (fun l y W hy hl => by
      have := Any.strings_IndexByte { gn_lays152 with } (ba l) (y.toNat : Int) W
      rw [ba_data, show ((y.toNat : Int)).toNat.toUInt8 = y by simp, indexByte_none l y hy hl] at this
      exact this)
    cases hv : Lib.validRune (r : Int) with
    | false =>
      rw [hv] at HV
      go_enter Tryz.func36, Tryz.ntmps36
      go_wp2_with fail
      refine (HV.out _).mono ?_
      rintro z w1 ⟨rfl, rfl⟩
      go_wp2
      go_ret
      exact ⟨rfl, Fr.refl _ _⟩
    | true =>
      rw [hv] at HV
      generalize hb : Utf8.encode (r : Int) = b at *
      have hmb : m < b.size := by omega
      obtain ⟨y, hy⟩ : ∃ y : UInt8, b[m]'hmb = y := ⟨_, rfl⟩
      have hy1 : 128 ≤ y.toNat := by rw [← hy]; exact HAll.out m hmb
      have hm3 : m = 1 ∨ m = 2 ∨ m = 3 := by omega
      rcases hm3 with rfl | rfl | rfl
      · exact indexRune_v1 r b w h0 q3 hb (by omega) y hmb hy hy1 HV HIx
      · exact indexRune_v2 r b w h0 q3 hb (by omega) y hmb hy hy1 HV HIx
      · exact indexRune_v3 r b w h0 q3 hb (by omega) y hmb hy hy1 HV HIx
end Go.Proofs.YthblokfiojccmaaGreatDoor.Gn
