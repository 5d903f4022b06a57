/-
  GenLimits: walked.
-/
import Derived.Test.YtfpphckhjbgbhaaDoorLmA
namespace Go.Proofs.YtfpphckhjbgbhaaDoor.Gn
open Go.RowKit

/-- What a text's generator gives. -/
def tkL (l : Bt) (xs : List Int) (most : Nat) : List Cl := match parseF l with
  | none => []
  | some g => (takeF 20 most g ⟨xs, 0⟩).l
theorem kt_any (l : Bt) (xs : List Int) (v : Value) (most : Nat) (w : World) (hv : ErrV w) (hq : InQ w v xs) (hm : most ≤ 1000) :
    Calls Tryd.prog 6 #[.string (ba l), v, .int .i64 (most : Nat)] w fun e w' => Fr [] w w' ∧ ∃ sl, e = .returned (.tuple #[sl, .bool (parseF l).isSome]) ∧ ClQ w' sl (tkL l xs most) ∧
      ((sl = .slice none 0 0 ∧ tkL l xs most = []) ∨ ∃ g cap, sl = .slice (some ⟨g, 0, none⟩) (tkL l xs most).length cap ∧ (tkL l xs most).length ≤ cap) := by
  refine (ktake_any l xs v most w hv hq hm).mono ?_
  rintro e w' ⟨hf, ⟨g, sl, h1, rfl, h2⟩ | ⟨h1, rfl⟩⟩
  · refine ⟨hf, sl, by rw [h1]; rfl, ?_⟩
    have e : tkL l xs most = (takeF 20 most g ⟨xs, 0⟩).l := by unfold tkL; rw [h1]
    rw [e]
    refine ⟨clQ_of h2, ?_⟩
    rcases h2.2 with ⟨e1, e2⟩ | ⟨g', cap, cur, e1, _, _, e3, _⟩
    · exact .inl ⟨e1, List.eq_nil_of_length_eq_zero e2⟩
    · exact .inr ⟨g', cap, e1, e3⟩
  · refine ⟨hf, _, by rw [h1]; rfl, ?_⟩
    have e : tkL l xs most = [] := by unfold tkL; rw [h1]
    rw [e]
    exact ⟨⟨none, 0, rfl, Nat.le_refl _, .inl rfl⟩, .inl ⟨rfl, rfl⟩⟩
theorem tkL_len (l : Bt) (xs : List Int) (most : Nat) : (tkL l xs most).length ≤ most := by
  unfold tkL
  split
  · exact Nat.zero_le _
  · exact takeF_len _ _ _ _
theorem ClQ.take {w : World} {a : Option Addr} {n c : Nat} {L : List Cl} (h : ClQ w (.slice a n c) L) (m : Nat) (hm : m ≤ L.length) : ClQ w (.slice a m c) (L.take m) := by
  obtain ⟨a', c', h1, h2, h3⟩ := h
  cases h1
  have hl : (L.take m).length = m := by simp; omega
  refine ⟨a, c, by rw [hl], by omega, ?_⟩
  rcases h3 with rfl | ⟨b, k1, k2, k3⟩
  · exact .inl (by simp)
  · refine .inr ⟨b, k1, k2, fun i hi => ?_⟩
    have hi2 : i < L.length := by omega
    rw [List.getElem_take]
    exact k3 i hi2

set_option maxHeartbeats 8000000 in
set_option maxRecDepth 100000 in
theorem limits_long (l : Bt) (xs : List Int) (v : Value) (n : Int) (w : World) (hq : InQ w v xs) (h : 500 < l.length ∨ 100 < xs.length) :
    Calls Tryd.prog 3 #[.string (ba l), v, .int .i64 n] w fun e w' => e = .returned (.bool true) ∧ Fr [] w w' := by
  have hsz := ba_size l
  obtain ⟨a8, c8, rfl, _, _⟩ := hq
  by_cases h1 : 500 < l.length
  · have h1' : (500 : Int) < (l.length : Int) := by omega
    go_enter Tryd.func3, Tryd.ntmps3
    go_wp2
    go_ret
    exact ⟨rfl, Fr.refl _ _⟩
  · have h1' : decide ((500 : Int) < (l.length : Int)) = false := decide_eq_false (by omega)
    have h2' : decide ((100 : Int) < (xs.length : Int)) = true := decide_eq_true (by omega)
    have h2 : (100 : Int) < (xs.length : Int) := by omega
    go_enter Tryd.func3, Tryd.ntmps3
    go_wp2
    go_ret
    exact ⟨rfl, Fr.refl _ _⟩

theorem infoB8 : (Tryd.prog.info? 5).map (fun i => (i.zero, i.size, i.bytes)) = some (some (.int .u8 0), 1, 1) := by kernel_rfl
/-- What stands behind the making of the text. -/
structure LmF (l m t : Bt) (xs : List Int) (k : Nat) : Prop where
  lim : (parseF l).isSome = true → (parseF m).isSome = true → tkL m xs 60 = (tkL l xs 60).take k
  thn : (parseF l).isSome = true → (parseF t).isSome = true → tkL t xs 60 = tkL l xs 60
theorem lmF_of (l : Bt) (xs : List Int) (k : Nat) (hk : k < 30) : LmF l (limT k l) (thnT l) xs k where
  lim := fun h1 h2 => by
    unfold tkL
    cases e1 : parseF l with
    | none => rw [e1] at h1; cases h1
    | some g =>
      cases e2 : parseF (limT k l) with
      | none => rw [e2] at h2; cases h2
      | some g' => exact lim_take hk e1 e2 _
  thn := fun h1 h2 => by
    unfold tkL
    cases e1 : parseF l with
    | none => rw [e1] at h1; cases h1
    | some g =>
      cases e2 : parseF (thnT l) with
      | none => rw [e2] at h2; cases h2
      | some g' => exact thn_take e1 e2 _

set_option maxHeartbeats 16000000 in
set_option maxRecDepth 100000 in
theorem limits_zero (l : Bt) (xs : List Int) (v : Value) (n : Int) (w : World) (hv : ErrV w) (hq : InQ w v xs) (h1 : ¬ 500 < l.length) (h2 : ¬ 100 < xs.length) (hk : pickN n 30 = 0) :
    Calls Tryd.prog 3 #[.string (ba l), v, .int .i64 n] w fun e w' => e = .returned (.bool true) ∧ Fr [] w w' := by
  have hsz := ba_size l
  have HKt := hideIt (fun W l (hV : ErrV W) (hQ : InQ W v xs) => kt_any l xs v 60 W hV hQ (by decide))
  have HM := hideIt (fun W (hV : ErrV W) => made_any W hV)
  have HPk := hideIt (fun W => pick_is n 30 W (by decide) (by decide))
  rw [hk] at HPk
  have HLm := hideIt (lmF_of l xs 0 (by decide))
  have HV := hideIt hv
  have HQ := hideIt hq
  obtain ⟨a8, c8, rfl, hcap, hq2⟩ := hq
  have h1' : decide ((500 : Int) < (l.length : Int)) = false := decide_eq_false (by omega)
  have h2' : decide ((100 : Int) < (xs.length : Int)) = false := decide_eq_false (by omega)
  have hs1 : (⟨#[108, 105, 109, 105, 116, 32, 48, 32]⟩ : ByteArray) ++ ba l = ba (limT 0 l) := ba_app [108, 105, 109, 105, 116, 32, 48, 32] l
  have hs2 : (⟨#[116, 104, 101, 110, 32, 40]⟩ : ByteArray) ++ ba l = ba ([116, 104, 101, 110, 32, 40] ++ l) := ba_app [116, 104, 101, 110, 32, 40] l
  have hs3 : ba ([116, 104, 101, 110, 32, 40] ++ l) ++ (⟨#[41]⟩ : ByteArray) = ba (thnT l) := ba_app ([116, 104, 101, 110, 32, 40] ++ l) [41]
  have hz2 : (ba ([116, 104, 101, 110, 32, 40] ++ l)).size = 6 + l.length := by rw [ba_size]; simp; omega
  generalize [116, 104, 101, 110, 32, 40] ++ l = thu at hs2 hs3 hz2
  have hb5 : l.length ≤ 500 := by omega
  clear hv h1 h2 hq2 hk
  go_enter Tryd.func3, Tryd.ntmps3
  go_wp2_with fail
  refine (HPk.out _).mono ?_
  rintro y w1 ⟨rfl, rfl⟩
  go_wp2_with fail
  refine (HKt.out _ l HV.out HQ.out).mono ?_
  rintro y w2 ⟨hf2, sA, rfl, hA, hA2⟩
  have HF2 := hideIt hf2
  have HA := hideIt hA
  have HA2 := hideIt hA2
  clear hf2 hA hA2
  go_wp2_with fail
  refine (HKt.out _ (limT 0 l) (HV.out.fr HF2.out (by simp) (by simp)) (HQ.out.fr HF2.out)).mono ?_
  rintro y w3 ⟨hf3, sB, rfl, hB, _⟩
  have HF3 := hideIt (HF2.out.trans hf3)
  have HA3 := hideIt (HA.out.fr hf3)
  have HB := hideIt hB
  clear hf3 hB
  cases hb1 : (parseF l).isSome with
  | false =>
    have hnil : tkL l xs 60 = [] := by
      unfold tkL
      cases e : parseF l with
      | none => rfl
      | some g => rw [e] at hb1; cases hb1
    obtain ⟨aA, cA, rfl, _, _⟩ := HA3.out
    rw [hnil]
    go_wp2_with fail
    refine (HM.out _ (HV.out.fr HF3.out (by simp) (by simp))).mono ?_
    rintro y w4 ⟨rfl, hf4⟩
    have HF4 := hideIt (HF3.out.trans hf4)
    clear hf4
    go_wp2_with fail
    refine (HM.out _ (HV.out.fr HF4.out (by simp) (by simp))).mono ?_
    rintro y w5 ⟨rfl, hf5⟩
    have HF5 := hideIt (HF4.out.trans hf5)
    clear hf5
    go_wp2
    go_ret
    exact ⟨rfl, HF5.out⟩
  | true =>
    cases hb2 : (parseF (limT 0 l)).isSome with
    | false =>
      go_wp2_with fail
      refine (HM.out _ (HV.out.fr HF3.out (by simp) (by simp))).mono ?_
      rintro y w4 ⟨rfl, hf4⟩
      have HF4 := hideIt (HF3.out.trans hf4)
      clear hf4
      go_wp2_with fail
      refine (HM.out _ (HV.out.fr HF4.out (by simp) (by simp))).mono ?_
      rintro y w5 ⟨rfl, hf5⟩
      have HF5 := hideIt (HF4.out.trans hf5)
      clear hf5
      go_wp2
      go_ret
      exact ⟨rfl, HF5.out⟩
    | true =>
      have hBA : tkL (limT 0 l) xs 60 = (tkL l xs 60).take 0 := HLm.out.lim hb1 hb2
      have HTh := hideIt (HLm.out.thn hb1)
      rw [hBA] at HB
      have hlA := tkL_len l xs 60
      have HA3' := HA3
      generalize tkL l xs 60 = A at *
      go_wp2_with fail
      refine (HM.out _ (HV.out.fr HF3.out (by simp) (by simp))).mono ?_
      rintro y w4 ⟨rfl, hf4⟩
      have HF4 := hideIt (HF3.out.trans hf4)
      have HA4 := hideIt (HA3.out.fr hf4)
      have HB4 := hideIt (HB.out.fr hf4)
      go_wp2_with fail
      refine (HKt.out _ (thnT l) (HV.out.fr HF4.out (by simp) (by simp)) (HQ.out.fr HF4.out)).mono ?_
      rintro y w5 ⟨hf5, sC, rfl, hC, _⟩
      have HF5 := hideIt (HF4.out.trans hf5)
      have HA5 := hideIt (HA4.out.fr hf5)
      have HB5 := hideIt (HB4.out.fr hf5)
      have HC5 := hideIt hC
      clear hf5 hC
      obtain ⟨aB, cB, hsB, hcB, _⟩ := HB5.out
      subst hsB
      have hlb : (A.take 0).length = min 0 A.length := List.length_take
      have htt : A.take (A.take 0).length = A.take 0 := by rw [hlb]; exact (List.take_eq_take_min).symm
      have hmin : min (0 : Int) (A.length : Int) = ((A.take 0).length : Int) := by rw [hlb]; omega
      have hnbA : (A.take 0).length ≤ A.length := by rw [hlb]; omega
      have HLen : Hid (A.length ≤ 100000) := hideIt (by omega)
      have HLenB : Hid ((A.take 0).length ≤ 100000) := hideIt (by omega)
      have HS2 := hideIt (fun a c (h : ClQ w5 (.slice a A.length c) A) => by have := h.take _ hnbA; rw [htt] at this; exact this)
      have HHA2 := HA2.out
      clear HA HA2 HA3 HA4 HB HB4 HA3' htt
      generalize A.take 0 = BL at *
      obtain rfl : BL = [] := List.eq_nil_of_length_eq_zero (by omega)
      rcases HHA2 with ⟨rfl, rfl⟩ | ⟨gA, cA, rfl, hcA⟩
      all_goals (
        clear hlb hnbA
        try (simp only [List.length_nil, Int.natCast_zero] at hmin)
        go_wp2_with fail
        refine (sameCalls_any _ _ _ _ HB5.out (HS2.out _ _ HA5.out) HLenB.out).mono ?_
        rintro y w6 ⟨rfl, hf6⟩
        have HF6 := hideIt (HF5.out.trans hf6)
        have HA6 := hideIt (HA5.out.fr hf6)
        have HC6 := hideIt (HC5.out.fr hf6)
        clear hf6 HA5 HB5 HC5 HS2
        cases hb3 : (parseF (thnT l)).isSome with
        | false =>
          go_wp2
          go_ret
          exact ⟨rfl, HF6.out⟩
        | true =>
          rw [HTh.out hb3] at HC6
          go_wp2_with fail
          refine (sameCalls_any _ _ _ _ HC6.out HA6.out HLen.out).mono ?_
          rintro y w7 ⟨rfl, hf7⟩
          have HF7 := hideIt (HF6.out.trans hf7)
          clear hf7 HA6 HC6
          go_wp2
          go_ret
          exact ⟨rfl, HF7.out⟩)

set_option maxHeartbeats 16000000 in
set_option maxRecDepth 100000 in
theorem limits_pos (l : Bt) (xs : List Int) (v : Value) (n : Int) (w : World) (hv : ErrV w) (hq : InQ w v xs) (h1 : ¬ 500 < l.length) (h2 : ¬ 100 < xs.length) (k : Nat) (hk : pickN n 30 = k) (hk0 : 0 < k) (hk3 : k < 30) :
    Calls Tryd.prog 3 #[.string (ba l), v, .int .i64 n] w fun e w' => e = .returned (.bool true) ∧ Fr [] w w' := by
  have hsz := ba_size l
  have HKt := hideIt (fun W l (hV : ErrV W) (hQ : InQ W v xs) => kt_any l xs v 60 W hV hQ (by decide))
  have HM := hideIt (fun W (hV : ErrV W) => made_any W hV)
  have HPk := hideIt (fun W => pick_is n 30 W (by decide) (by decide))
  rw [hk] at HPk
  have HLm := hideIt (lmF_of l xs k hk3)
  have HV := hideIt hv
  have HQ := hideIt hq
  obtain ⟨a8, c8, rfl, hcap, hq2⟩ := hq
  have h1' : decide ((500 : Int) < (l.length : Int)) = false := decide_eq_false (by omega)
  have h2' : decide ((100 : Int) < (xs.length : Int)) = false := decide_eq_false (by omega)
  have hs1 : (⟨#[108, 105, 109, 105, 116, 32, 48, 32]⟩ : ByteArray) ++ ba l = ba (limT 0 l) := ba_app [108, 105, 109, 105, 116, 32, 48, 32] l
  have hs2 : (⟨#[116, 104, 101, 110, 32, 40]⟩ : ByteArray) ++ ba l = ba ([116, 104, 101, 110, 32, 40] ++ l) := ba_app [116, 104, 101, 110, 32, 40] l
  have hs3 : ba ([116, 104, 101, 110, 32, 40] ++ l) ++ (⟨#[41]⟩ : ByteArray) = ba (thnT l) := ba_app ([116, 104, 101, 110, 32, 40] ++ l) [41]
  have hz2 : (ba ([116, 104, 101, 110, 32, 40] ++ l)).size = 6 + l.length := by rw [ba_size]; simp; omega
  generalize [116, 104, 101, 110, 32, 40] ++ l = thu at hs2 hs3 hz2
  have hb5 : l.length ≤ 500 := by omega
  have hd2 := dg_len k
  have hdp : 0 < (dgT k).length := List.length_pos_iff.2 (dg_all k hk3).2.1
  have HDg := hideIt (fun W => digits_any k W hk3)
  have hs4 : (⟨#[108, 105, 109, 105, 116, 32]⟩ : ByteArray) ++ ba (dgT k) = ba ([108, 105, 109, 105, 116, 32] ++ dgT k) := ba_app _ _
  have hs5 : ba ([108, 105, 109, 105, 116, 32] ++ dgT k) ++ (⟨#[32]⟩ : ByteArray) = ba ([108, 105, 109, 105, 116, 32] ++ dgT k ++ [32]) := ba_app _ [32]
  have hs6 : ba ([108, 105, 109, 105, 116, 32] ++ dgT k ++ [32]) ++ ba l = ba (limT k l) := by rw [ba_app]; simp [limT, nmLimit]
  have hz5 : (ba ([108, 105, 109, 105, 116, 32] ++ dgT k)).size ≤ 8 := by rw [ba_size]; simp; omega
  have hz6 : (ba ([108, 105, 109, 105, 116, 32] ++ dgT k ++ [32])).size ≤ 9 := by rw [ba_size]; simp; omega
  have hz4 : (ba (dgT k)).size = (dgT k).length := ba_size _
  generalize [108, 105, 109, 105, 116, 32] ++ dgT k ++ [32] = u2 at hs5 hs6 hz6
  generalize [108, 105, 109, 105, 116, 32] ++ dgT k = u1 at hs4 hs5 hz5
  have hki : (0 : Int) < (k : Int) := by omega
  obtain ⟨i0, hi, hz0, hz1, hz2'⟩ := info_parts' infoB8
  clear hv h1 h2 hq2 hk
  go_enter Tryd.func3, Tryd.ntmps3
  go_wp2_with fail
  refine (HPk.out _).mono ?_
  rintro y w1 ⟨rfl, rfl⟩
  go_wp2_with fail
  refine (HKt.out _ l HV.out HQ.out).mono ?_
  rintro y w2 ⟨hf2, sA, rfl, hA, hA2⟩
  have HF2 := hideIt hf2
  have HA := hideIt hA
  have HA2 := hideIt hA2
  clear hf2 hA hA2
  go_wp2_with fail
  refine (HDg.out _).mono ?_
  rintro y wd ⟨rfl, hfd⟩
  have hwd := hfd.size
  rw [World.size_alloc] at hwd
  have hrow : wd.ownsRow w2.heap.size 5 1 (.slice (some ⟨w2.heap.size, 0, none⟩) 0 0) 0 [] :=
    ownsRow_blk (owns_of_cells (Nat.le_refl _) (heap_new w2 (.cells #[] 5)) (Nat.le_refl _) (Nat.zero_le _) rfl rfl (fun j hj => absurd hj (by simp))) (fun y hy => by
      have hy' : some w2.heap.size = some y := hy
      injection hy' with hy'
      rw [← hy']
      exact hfd.block _ (by rw [World.size_alloc]; omega) (by simp))
  have HRow := hideIt hrow
  have HFd : Hid (Fr [] w2 wd) := hideIt ((Fr.alloc [] w2 _).trans hfd)
  clear hrow hfd
  go_wp2_with (at_builtin; refine Lib.wpList_append_own_string _ rfl _ _ 27 9 rfl w2.heap.size 5 i0 Tryd.underlying27 Tryd.underlying9 hi hz0 hz1 hz2' _ 0 [] rfl HRow.out (ba (dgT k)) rfl ?c1 ?c2 ?c3 ?_)
  case c1 => unfold maxLen; omega
  case c2 => omega
  case c3 => omega
  intro v5 W5 ho5 hg5 hn5
  have hcells : Lib.strCells (ba (dgT k)) = (dgT k).map fun b => .int .u8 (b.toNat : Int) := by simp [Lib.strCells, ba]
  rw [hcells] at ho5
  obtain ⟨S5, c5, rfl⟩ : ∃ S c, v5 = .slice (some ⟨S, 0, none⟩) (dgT k).length c := by
    rcases ho5.2 with ⟨_, e⟩ | ⟨g', c', cur, e, _⟩
    · omega
    · exact ⟨g', c', e⟩
  have hcv := conv_row ho5
  have HF5 : Hid (Fr [] w1 W5) := hideIt ((HF2.out.trans HFd.out).trans2 hg5 (fun y hy => hg5.block y (by have := HF2.out.size; omega) (fun e => by
    have e2 : some y = some w2.heap.size := e
    injection e2 with e2
    have := HF2.out.size; omega)))
  have HA5 : Hid (ClQ W5 sA (tkL l xs 60)) := hideIt (HA.out.fr (HFd.out.trans2 hg5 (fun y hy => hg5.block y (by omega) (fun e => by
    have e2 : some y = some w2.heap.size := e
    injection e2 with e2
    omega))))
  clear ho5 hg5 hn5 hcells HF2 HA
  have HF2 := HF5
  have HA := HA5
  clear HF5 HA5
  go_wp2_with fail
  refine (HKt.out _ (limT k l) (HV.out.fr HF2.out (by simp) (by simp)) (HQ.out.fr HF2.out)).mono ?_
  rintro y w3 ⟨hf3, sB, rfl, hB, _⟩
  have HF3 := hideIt (HF2.out.trans hf3)
  have HA3 := hideIt (HA.out.fr hf3)
  have HB := hideIt hB
  clear hf3 hB
  cases hb1 : (parseF l).isSome with
  | false =>
    have hnil : tkL l xs 60 = [] := by
      unfold tkL
      cases e : parseF l with
      | none => rfl
      | some g => rw [e] at hb1; cases hb1
    obtain ⟨aA, cA, rfl, _, _⟩ := HA3.out
    rw [hnil]
    go_wp2_with fail
    refine (HM.out _ (HV.out.fr HF3.out (by simp) (by simp))).mono ?_
    rintro y w4 ⟨rfl, hf4⟩
    have HF4 := hideIt (HF3.out.trans hf4)
    clear hf4
    go_wp2_with fail
    refine (HM.out _ (HV.out.fr HF4.out (by simp) (by simp))).mono ?_
    rintro y w5 ⟨rfl, hf5⟩
    have HF5 := hideIt (HF4.out.trans hf5)
    clear hf5
    go_wp2
    go_ret
    exact ⟨rfl, HF5.out⟩
  | true =>
    cases hb2 : (parseF (limT k l)).isSome with
    | false =>
      go_wp2_with fail
      refine (HM.out _ (HV.out.fr HF3.out (by simp) (by simp))).mono ?_
      rintro y w4 ⟨rfl, hf4⟩
      have HF4 := hideIt (HF3.out.trans hf4)
      clear hf4
      go_wp2_with fail
      refine (HM.out _ (HV.out.fr HF4.out (by simp) (by simp))).mono ?_
      rintro y w5 ⟨rfl, hf5⟩
      have HF5 := hideIt (HF4.out.trans hf5)
      clear hf5
      go_wp2
      go_ret
      exact ⟨rfl, HF5.out⟩
    | true =>
      have hBA : tkL (limT k l) xs 60 = (tkL l xs 60).take k := HLm.out.lim hb1 hb2
      have HTh := hideIt (HLm.out.thn hb1)
      rw [hBA] at HB
      have hlA := tkL_len l xs 60
      have HA3' := HA3
      generalize tkL l xs 60 = A at *
      go_wp2_with fail
      refine (HM.out _ (HV.out.fr HF3.out (by simp) (by simp))).mono ?_
      rintro y w4 ⟨rfl, hf4⟩
      have HF4 := hideIt (HF3.out.trans hf4)
      have HA4 := hideIt (HA3.out.fr hf4)
      have HB4 := hideIt (HB.out.fr hf4)
      go_wp2_with fail
      refine (HKt.out _ (thnT l) (HV.out.fr HF4.out (by simp) (by simp)) (HQ.out.fr HF4.out)).mono ?_
      rintro y w5 ⟨hf5, sC, rfl, hC, _⟩
      have HF5 := hideIt (HF4.out.trans hf5)
      have HA5 := hideIt (HA4.out.fr hf5)
      have HB5 := hideIt (HB4.out.fr hf5)
      have HC5 := hideIt hC
      clear hf5 hC
      obtain ⟨aB, cB, hsB, hcB, _⟩ := HB5.out
      subst hsB
      have hlb : (A.take k).length = min k A.length := List.length_take
      have htt : A.take (A.take k).length = A.take k := by rw [hlb]; exact (List.take_eq_take_min).symm
      have hmin : min (k : Int) (A.length : Int) = ((A.take k).length : Int) := by rw [hlb]; omega
      have hnbA : (A.take k).length ≤ A.length := by rw [hlb]; omega
      have HLen : Hid (A.length ≤ 100000) := hideIt (by omega)
      have HLenB : Hid ((A.take k).length ≤ 100000) := hideIt (by omega)
      have HS2 := hideIt (fun a c (h : ClQ w5 (.slice a A.length c) A) => by have := h.take _ hnbA; rw [htt] at this; exact this)
      have HHA2 := HA2.out
      clear HA HA2 HA3 HA4 HB HB4 HA3' htt
      generalize A.take k = BL at *
      have hzz : A = [] → BL = [] := fun e => List.eq_nil_of_length_eq_zero (by rw [e] at hnbA; exact Nat.le_zero.1 hnbA)
      rcases HHA2 with ⟨rfl, rfl⟩ | ⟨gA, cA, rfl, hcA⟩
      all_goals (
        first | (have hbn := hzz rfl; subst hbn) | skip
        clear hzz
        clear hlb hnbA
        try (simp only [List.length_nil, Int.natCast_zero] at hmin)
        go_wp2_with fail
        refine (sameCalls_any _ _ _ _ HB5.out (HS2.out _ _ HA5.out) HLenB.out).mono ?_
        rintro y w6 ⟨rfl, hf6⟩
        have HF6 := hideIt (HF5.out.trans hf6)
        have HA6 := hideIt (HA5.out.fr hf6)
        have HC6 := hideIt (HC5.out.fr hf6)
        clear hf6 HA5 HB5 HC5 HS2
        cases hb3 : (parseF (thnT l)).isSome with
        | false =>
          go_wp2
          go_ret
          exact ⟨rfl, HF6.out⟩
        | true =>
          rw [HTh.out hb3] at HC6
          go_wp2_with fail
          refine (sameCalls_any _ _ _ _ HC6.out HA6.out HLen.out).mono ?_
          rintro y w7 ⟨rfl, hf7⟩
          have HF7 := hideIt (HF6.out.trans hf7)
          clear hf7 HA6 HC6
          go_wp2
          go_ret
          exact ⟨rfl, HF7.out⟩)

/-- GenLimits, whatever comes in. -/
theorem limits_any (l : Bt) (xs : List Int) (v : Value) (n : Int) (w : World) (hv : ErrV w) (hq : InQ w v xs) :
    Calls Tryd.prog 3 #[.string (ba l), v, .int .i64 n] w fun e w' => e = .returned (.bool true) ∧ Fr [] w w' := by
  by_cases h : 500 < l.length ∨ 100 < xs.length
  · exact limits_long l xs v n w hq h
  · by_cases hk : pickN n 30 = 0
    · exact limits_zero l xs v n w hv hq (fun e => h (.inl e)) (fun e => h (.inr e)) hk
    · exact limits_pos l xs v n w hv hq (fun e => h (.inl e)) (fun e => h (.inr e)) _ rfl (by omega) (Nat.mod_lt _ (by decide))
end Go.Proofs.YtfpphckhjbgbhaaDoor.Gn
