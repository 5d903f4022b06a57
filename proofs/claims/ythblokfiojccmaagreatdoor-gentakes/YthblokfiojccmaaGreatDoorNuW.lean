/-
  The document's number, walked.
-/
import Derived.Test.YthblokfiojccmaaGreatDoorLs2
import Derived.Test.YthblokfiojccmaaGreatDoorNuP
import Derived.Test.YthblokfiojccmaaGreatDoorRdC
import Derived.Lib.LaidTab
namespace Go.Proofs.YthblokfiojccmaaGreatDoor.Gn
open Go.RowKit Go.Shelf

/-- The powers of ten, as laid. -/
def PowT (w : World) : Prop := Lib.TabIs Tryz.prog w "internal/strconv.uint64pow10" .u64 Lib.pow10Tab
noncomputable def gPow : Nat := (Tryz.prog.globalNamed "internal/strconv.uint64pow10").getD 0
theorem gPow_eq : Tryz.prog.globalNamed "internal/strconv.uint64pow10" = some gPow := by kernel_rfl
theorem PowT.lt {w : World} (h : PowT w) : gPow < w.heap.size := (var_blk (w' := w) gPow_eq h).1
theorem PowT.fr {w w' : World} {X : List Nat} (h : PowT w) (hg : Fr X w w') (hX : gPow ∉ X) : PowT w' := (var_blk gPow_eq h).2 (hg.block _ h.lt hX)

def numDV (t : Bt) : Value := match numD t with
  | some n => .tuple #[.int .i64 n, .bool true]
  | none => .tuple #[.int .i64 0, .bool false]

theorem grow_below (w : World) (k : Nat) (os : Array Obj) : Below w.heap.size w (Go.Sort.grow (w.drewN k) os) := by
  refine ⟨rfl, rfl, rfl, by simp [Go.Sort.grow, World.drewN], fun k hk => ?_⟩
  simp only [Go.Sort.grow, World.drewN]
  rw [Array.getElem?_append_left hk]

/-- What ParseInt tells, of any text. -/
theorem pint_call (t : Bt) (w : World) (ht : t.length ≤ 3000) (hv : ErrV w) : Calls Tryz.prog 34 #[.string (ba t), .int .i64 10, .int .i64 64] w fun e w' => Fr [] w w' ∧
    ((∃ v, Lib.atoiAll t = .ok v ∧ e = .returned (.tuple #[.int .i64 v, .nilIface])) ∨ ((∀ v, Lib.atoiAll t ≠ .ok v) ∧ ∃ (n : Int) (T : TypeId) (x : Value), e = .returned (.tuple #[.int .i64 n, .iface T x]))) := by
  obtain ⟨⟨tp, p, h1⟩, ⟨tq, q, h2⟩⟩ := hv
  cases h : Lib.atoiAll t with
  | ok v =>
    have hB : Lib.parseIntB 64 (ba t).data.toList = .ok v := by rw [ba_data, Lib.parseIntB_64]; exact h
    have := Any.strconv_ParseInt_10_at64_ok nu_laysC174 (ba t) (by rw [ba_size]; omega) v hB w
    refine this.mono ?_
    rintro e w' ⟨rfl, rfl | ⟨n, rfl⟩⟩
    · exact ⟨Fr.refl _ _, .inl ⟨v, rfl, rfl⟩⟩
    · exact ⟨fr_below (Lib.bytesWorld_below _ _ _) _, .inl ⟨v, rfl, rfl⟩⟩
  | «syntax» =>
    have := Any.strconv_ParseInt_10_at64_syntax_var nu_laysC174 (ba t) (by rw [ba_size]; omega) (by rw [ba_data, Lib.parseIntB_64]; exact h) tq q w h2
    refine this.mono ?_
    rintro e w' ⟨N, rfl, _, _, hb⟩
    exact ⟨fr_below hb _, .inr ⟨fun v h => by (cases h), _, _, _, rfl⟩⟩
  | range =>
    have := Any.strconv_ParseInt_10_at64_range_var nu_laysC174 (ba t) (by rw [ba_size]; omega) (by rw [ba_data, Lib.parseIntB_64]; exact h) tp p w h1
    refine this.mono ?_
    rintro e w' ⟨N, rfl, _, _, hb⟩
    exact ⟨fr_below hb _, .inr ⟨fun v h => by (cases h), _, _, _, rfl⟩⟩
theorem fint_call (v : Int) (w : World) (h0 : -9223372036854775808 ≤ v) (h1 : v ≤ 9223372036854775807) (hp : PowT w) : Calls Tryz.prog 35 #[.int .i64 v, .int .i64 10] w fun e w' => e = .returned (.string (ba (Lib.itoa v))) ∧ Fr [] w w' := by
  refine (Any.strconv_FormatInt_10 nu_laysM173 v h0 h1 w hp).mono ?_
  rintro e w' ⟨rfl, k, os, rfl⟩
  exact ⟨rfl, fr_below (grow_below _ _ _) _⟩

set_option maxHeartbeats 4000000 in
theorem number_dany (t : Bt) (w : World) (ht : t.length ≤ 3000) (hv : ErrV w) (hp : PowT w) : Calls Tryz.prog 29 #[.string (ba t)] w fun e w' => e = .returned (numDV t) ∧ Fr [] w w' := by
  have HI := hideIt (pint_call t w ht hv)
  have HP := hideIt hp
  have HF := hideIt fint_call
  clear hv hp
  go_enter Tryz.func29, Tryz.ntmps29
  go_wp2_with fail
  refine HI.out.mono ?_
  rintro x w1 ⟨hf1, ⟨v, h, rfl⟩ | ⟨h, n, T, x, rfl⟩⟩
  · have hb := Lib.atoiAll_bounds h
    have HF1 := hideIt hf1
    have HP1 := hideIt (HP.out.fr hf1 (by simp))
    clear hf1
    by_cases hi : Lib.itoa v = t
    · have HN : Hid (numDV t = .tuple #[.int .i64 v, .bool true]) := hideIt (by unfold numDV numD; rw [h]; simp only; rw [if_pos hi])
      have he : ((ba (Lib.itoa v)).toList == (ba t).toList) = true := by rw [hi]; exact beq_self_eq_true _
      clear h hi
      go_wp2_with fail
      refine (HF.out v w1 hb.1 hb.2 HP1.out).mono ?_
      rintro x w2 ⟨rfl, hf2⟩
      have HF2 := hideIt (HF1.out.trans hf2)
      clear hf2
      go_wp2
      go_ret2
      exact ⟨by rw [HN.out]; rfl, HF2.out⟩
    · have HN : Hid (numDV t = .tuple #[.int .i64 0, .bool false]) := hideIt (by unfold numDV numD; rw [h]; simp only; rw [if_neg hi])
      have he := ba_ne hi
      clear h hi
      go_wp2_with fail
      refine (HF.out v w1 hb.1 hb.2 HP1.out).mono ?_
      rintro x w2 ⟨rfl, hf2⟩
      have HF2 := hideIt (HF1.out.trans hf2)
      clear hf2
      go_wp2
      go_ret2
      exact ⟨by rw [HN.out]; rfl, HF2.out⟩
  · have HN : Hid (numDV t = .tuple #[.int .i64 0, .bool false]) := hideIt (by
      unfold numDV numD
      cases k : Lib.atoiAll t with
      | ok v => exact absurd k (h v)
      | «syntax» => rfl
      | range => rfl)
    have HF1 := hideIt hf1
    clear hf1 h
    go_wp2
    go_ret2
    exact ⟨by rw [HN.out]; rfl, HF1.out⟩
end Go.Proofs.YthblokfiojccmaaGreatDoor.Gn
