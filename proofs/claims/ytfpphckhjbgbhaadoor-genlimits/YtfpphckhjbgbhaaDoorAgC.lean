/-
  GenAgain: walked.
-/
import Derived.Test.YtfpphckhjbgbhaaDoorAgB
namespace Go.Proofs.YtfpphckhjbgbhaaDoor.Gn
open Go.RowKit

theorem takeF_use (n : Nat) : ∀ (m : Nat) (g : Gt) (t : Tp), (takeF n m g t).t.u ≤ t.u + m * wtF n g ∧ wtF n (takeF n m g t).g ≤ wtF n g
  | 0, g, t => by simp [takeF]
  | m + 1, g, t => by
    have h := nextF_use n g t
    have e : (m + 1) * wtF n g = m * wtF n g + wtF n g := Nat.succ_mul _ _
    cases hc : (nextF n g t).c with
    | none => rw [takeF_none hc]; exact ⟨by show (nextF n g t).t.u ≤ _; omega, h.2⟩
    | some c =>
      rw [takeF_some hc]
      have ih := takeF_use n m (nextF n g t).g (nextF n g t).t
      have h2 : m * wtF n (nextF n g t).g ≤ m * wtF n g := Nat.mul_le_mul_left _ h.2
      refine ⟨?_, Nat.le_trans ih.2 h.2⟩
      have := ih.1
      show (takeF n m (nextF n g t).g (nextF n g t).t).t.u ≤ _
      omega

theorem clCs_append (A B : List Cl) : clCs (A ++ B) = clCs A ++ clCs B := by simp [clCs]
theorem wpList_append_cl {w : World} {ops : Array Oper} {rest : List Oper} {o : Oper} {a : Act} {Q : Exit → Act → World → Prop} (hw : Region.wanted o (yielded ops a.tmps) = true) (s x : Operand)
    (ho : o.op = .call { callee := .builtin .append, args := #[s, x], argTypes := #[24, 24] }) (base base2 : Nat) (L M : List Cl) (v u : Value) (hs : a.eval s = v) (hx : a.eval x = u)
    (hown : w.ownsRow base 45 3 v L.length (clCs L)) (hu : w.ownsRow base2 45 3 u M.length (clCs M)) (hn : L.length + M.length ≤ 5000) (hb : base ≤ w.heap.size)
    (h : ∀ v' w', w'.ownsRow base 45 3 v' (L ++ M).length (clCs (L ++ M)) → w.grownBy w' v.ownBlock → wpList Tryd.prog ops Q rest (a.put o.dst v') w') : wpList Tryd.prog ops Q (o :: rest) a w := by
  obtain ⟨i0, hi, hz0, hz1, hz2⟩ := info_parts' infoCl
  have hrun : ∃ v' w', (Builtin.append_ #[24, 24] o.type #[v, u]).run Tryd.prog w = .ok v' w' ∧ w'.ownsRow base 45 3 v' (L ++ M).length (clCs (L ++ M)) ∧ w.grownBy w' v.ownBlock := by
    rcases hu.2 with ⟨rfl, h0⟩ | ⟨g, cap, cur, rfl, _, hg, _⟩
    · have hM : M = [] := List.eq_nil_of_length_eq_zero h0
      subst hM
      exact ⟨v, w, run_append_owned_none (P := Tryd.prog) (w := w) base 24 o.type 45 i0 3 Tryd.underlying24 hi v L.length (clCs L) hown, by rw [List.append_nil]; exact hown, ⟨rfl, rfl, rfl, Nat.le_refl _, fun _ _ _ => rfl⟩⟩
    · obtain ⟨v', w', k1, k2, k3, _⟩ := run_append_own_at (P := Tryd.prog) w base 24 o.type 45 i0 _ 3 24 Tryd.underlying24 hi hz0 hz1 hz2 rfl (by decide) v L.length (clCs L) hown ⟨g, 0, none⟩ M.length cap (clCs M) (by
        rw [hu.1]) (fun j y hj => by
        have hlt : j < M.length * 3 := by rw [← hu.1]; exact (List.getElem?_eq_some_iff.1 hj).1
        have := hu.cellAt j hlt
        rw [hj] at this
        by_cases hj0 : j = 0
        · subst hj0; simpa [Addr.add] using this
        · simpa [Addr.add, hj0] using this) (fun y hy => by
        obtain ⟨c, _, hc⟩ := List.mem_flatMap.1 hy
        simp only [clC, List.mem_cons, List.not_mem_nil, or_false] at hc
        rcases hc with rfl | rfl | rfl <;> rfl) (by unfold maxLen; omega) (by omega) hb
      exact ⟨v', w', k1, by rw [List.length_append, clCs_append]; exact k2, k3⟩
  obtain ⟨v', w', hr, k1, k2⟩ := hrun
  refine wpList_step fun K hK => ?_
  rw [if_pos hw]
  unfold Oper.wp execOp
  simp only [ho, resolve, invoke, builtin, Sem.run_bind, Sem.run_pure, Result.andThen_ok, List.map_toArray, List.map_cons, List.map_nil, hs, hx, hr]
  exact hK _ _ (h v' w' k1 k2)

set_option maxHeartbeats 8000000 in
set_option maxRecDepth 100000 in
theorem again_long (l : Bt) (xs : List Int) (v : Value) (first : Int) (w : World) (hq : InQ w v xs) (h : 500 < l.length ∨ 100 < xs.length) :
    Calls Tryd.prog 4 #[.string (ba l), v, .int .i64 first] w fun e w' => e = .returned (.bool true) ∧ Fr [] w w' := by
  have hsz := ba_size l
  obtain ⟨a8, c8, rfl, _, _⟩ := hq
  by_cases h1 : 500 < l.length
  · have h1' : (500 : Int) < (l.length : Int) := by omega
    go_enter Tryd.func4, Tryd.ntmps4
    go_wp2
    go_ret
    exact ⟨rfl, Fr.refl _ _⟩
  · have h1' : decide ((500 : Int) < (l.length : Int)) = false := decide_eq_false (by omega)
    have h2' : decide ((100 : Int) < (xs.length : Int)) = true := decide_eq_true (by omega)
    have h2 : (100 : Int) < (xs.length : Int) := by omega
    go_enter Tryd.func4, Tryd.ntmps4
    go_wp2
    go_ret
    exact ⟨rfl, Fr.refl _ _⟩

set_option maxHeartbeats 8000000 in
set_option maxRecDepth 100000 in
theorem again_none (l : Bt) (xs : List Int) (v : Value) (first : Int) (w : World) (hv : ErrV w) (hq : InQ w v xs) (h1 : ¬ 500 < l.length) (h2 : ¬ 100 < xs.length) (hp : parseF l = none) :
    Calls Tryd.prog 4 #[.string (ba l), v, .int .i64 first] w fun e w' => e = .returned (.bool true) ∧ Fr [] w w' := by
  have hsz := ba_size l
  have HKt := hideIt (fun W (hV : ErrV W) (hQ : InQ W v xs) => ktake_any l xs v 50 W hV hQ (by decide))
  have HM := hideIt (fun W (hV : ErrV W) => made_any W hV)
  have HV := hideIt hv
  have HQ := hideIt hq
  have HP := hideIt hp
  obtain ⟨a8, c8, rfl, _, _⟩ := hq
  have h1' : decide ((500 : Int) < (l.length : Int)) = false := decide_eq_false (by omega)
  have h2' : decide ((100 : Int) < (xs.length : Int)) = false := decide_eq_false (by omega)
  clear hv hp h1 h2
  go_enter Tryd.func4, Tryd.ntmps4
  go_wp2_with fail
  refine (HKt.out _ HV.out HQ.out).mono ?_
  rintro y w1 ⟨hf1, ⟨g, sl, h1, _⟩ | ⟨_, rfl⟩⟩
  · rw [HP.out] at h1; cases h1
  have HF1 := hideIt hf1
  clear hf1
  go_wp2_with fail
  refine (HKt.out _ (HV.out.fr HF1.out (by simp) (by simp)) (HQ.out.fr HF1.out)).mono ?_
  rintro y w2 ⟨hf2, ⟨g, sl, h1, _⟩ | ⟨_, rfl⟩⟩
  · rw [HP.out] at h1; cases h1
  have HF2 := hideIt (HF1.out.trans hf2)
  clear hf2
  go_wp2_with fail
  refine (HM.out _ (HV.out.fr HF2.out (by simp) (by simp))).mono ?_
  rintro y w3 ⟨rfl, hf3⟩
  have HF3 := hideIt (HF2.out.trans hf3)
  clear hf3
  go_wp2_with fail
  refine (HM.out _ (HV.out.fr HF3.out (by simp) (by simp))).mono ?_
  rintro y w4 ⟨rfl, hf4⟩
  have HF4 := hideIt (HF3.out.trans hf4)
  clear hf4
  go_wp2
  go_ret
  exact ⟨rfl, HF4.out⟩

theorem Fr.trans2 {w w1 w2 : World} {row : Option Nat} (h : Fr [] w w1) (k : w1.grownBy w2 row) (hb : ∀ y, y < w.heap.size → w2.heap[y]? = w1.heap[y]?) : Fr [] w w2 :=
  ⟨k.os.trans h.os, k.tape.trans h.tape, k.output.trans h.output, Nat.le_trans h.size k.size, fun y hy _ => (hb y hy).trans (h.block y hy (by simp))⟩

set_option maxHeartbeats 16000000 in
set_option maxRecDepth 100000 in
theorem again_some (l : Bt) (xs : List Int) (v : Value) (first : Int) (w : World) (hv : ErrV w) (hq : InQ w v xs) (h1 : ¬ 500 < l.length) (h2 : ¬ 100 < xs.length) (g : Gt) (hp : parseF l = some g) :
    Calls Tryd.prog 4 #[.string (ba l), v, .int .i64 first] w fun e w' => e = .returned (.bool true) ∧ Fr [] w w' := by
  have hsz := ba_size l
  have HKt := hideIt (fun W (hV : ErrV W) (hQ : InQ W v xs) => ktake_any l xs v 50 W hV hQ (by decide))
  have HM := hideIt (fun W (hV : ErrV W) => made_any W hV)
  have HPs := hideIt (fun W (hV : ErrV W) => parse_any l W hV)
  have HPk := hideIt (fun W => pick_is first 51 W (by decide) (by decide))
  have HV := hideIt hv
  have HQ := hideIt hq
  have HP := hideIt hp
  obtain ⟨a8, c8, rfl, hcap, hq2⟩ := hq
  have HQ2 := hideIt hq2
  have h1' : decide ((500 : Int) < (l.length : Int)) = false := decide_eq_false (by omega)
  have h2' : decide ((100 : Int) < (xs.length : Int)) = false := decide_eq_false (by omega)
  obtain ⟨hht, hwt⟩ := parseF_reads hp
  have hf : pickN first 51 < 51 := Nat.mod_lt _ (by decide)
  generalize pickN first 51 = f at *
  clear hv hp h1 h2 hq2
  go_enter Tryd.func4, Tryd.ntmps4
  go_wp2_with fail
  refine (HKt.out _ HV.out HQ.out).mono ?_
  rintro y w1 ⟨hf1, ⟨g1, sA, k1, rfl, hA⟩ | ⟨k1, _⟩⟩
  rotate_left 1
  · rw [HP.out] at k1; cases k1
  obtain rfl : g1 = g := by rw [HP.out] at k1; exact (Option.some.inj k1).symm
  have HF1 := hideIt hf1
  have HA := hideIt hA
  clear hf1 hA k1
  go_wp2_with fail
  refine (HKt.out _ (HV.out.fr HF1.out (by simp) (by simp)) (HQ.out.fr HF1.out)).mono ?_
  rintro y w2 ⟨hf2, ⟨g2, sB, k1, rfl, hB⟩ | ⟨k1, _⟩⟩
  rotate_left 1
  · rw [HP.out] at k1; cases k1
  obtain rfl : g2 = g1 := by rw [HP.out] at k1; exact (Option.some.inj k1).symm
  have HF2 := hideIt (HF1.out.trans hf2)
  have HA2 := hideIt ((clQ_of HA.out).fr hf2)
  have HB := hideIt hB
  clear hf2 hB k1
  go_wp2_with fail
  refine (HM.out _ (HV.out.fr HF2.out (by simp) (by simp))).mono ?_
  rintro y w3 ⟨rfl, hf3⟩
  have HF3 := hideIt (HF2.out.trans hf3)
  have HA3 := hideIt (HA2.out.fr hf3)
  have HB3 := hideIt ((clQ_of HB.out).fr hf3)
  clear hf3
  go_wp2_with fail
  refine (HPs.out _ (HV.out.fr HF3.out (by simp) (by simp))).mono ?_
  rintro y w4 (⟨g4, vg, bs, k1, rfl, k2, k3⟩ | ⟨k1, _⟩)
  rotate_left 1
  · rw [HP.out] at k1; cases k1
  obtain rfl : g4 = g2 := by rw [HP.out] at k1; exact (Option.some.inj k1).symm
  obtain ⟨T, x, F, hMt⟩ := met_of k2
  have hsh := hMt.shape
  subst hsh
  have hnil := hMt.nil
  have HMt := hideIt hMt
  have HF4 := hideIt (HF3.out.trans k3)
  have hs3 := HF3.out.size
  have hs4 := k3.size
  have hnew := heap_new w4 (.cells #[.slice a8 xs.length c8, .int .i64 0] 40)
  have hal : Fr [] w4 (w4.alloc (.cells #[.slice a8 xs.length c8, .int .i64 0] 40)) := Fr.alloc _ _ _
  have hT : TpAt (w4.alloc (.cells #[.slice a8 xs.length c8, .int .i64 0] 40)) w3.heap.size w4.heap.size 0 ⟨xs, 0⟩ := by
    refine ⟨⟨a8, c8, by rw [cell_of_row _ _ _ _ _ _ hnew]; rfl, hcap, HQ2.out.imp id fun ⟨b, off, q1, q2, q3⟩ => ⟨b, off, q1, by omega, fun i hi => ?_⟩⟩, by rw [cell_of_row _ _ _ _ _ _ hnew]; rfl, frozen_of_row _ _ _ _ _ hnew, hs4⟩
    have hb1 := (HF4.out.trans hal).block b q2 (by simp)
    exact (World.cell?_of_block (a := ⟨b, off + i, none⟩) hb1).trans (q3 i hi)
  have hu1 : f * wtF 20 g4 ≤ 51 * 2001 := Nat.mul_le_mul (by omega) hwt
  have HTk := hideIt (take_any 20 f w3.heap.size w4.heap.size 0 ⟨xs, 0⟩ _ _ g4 bs (k2.fr hal (by simp)) hT (fun e => by have := (k2.in_ _ e).2; omega) (by omega) (by
    show 0 + f * wtF 20 g4 ≤ 1000000000
    omega))
  have HFa := hideIt (k3.trans hal)
  have HBb : Hid (∀ b ∈ bs, b < w4.heap.size) := hideIt (fun b hb => (k2.in_ b hb).2)
  have HBs : Hid (∀ b ∈ bs, w3.heap.size ≤ b) := hideIt (fun b hb => (k2.in_ b hb).1)
  have HBl : Hid (w4.heap.size ∉ bs) := hideIt (fun e => by have := (k2.in_ _ e).2; omega)
  clear k1 k2 k3 hT hal hnew hMt
  go_wp2_with fail
  refine (HPk.out _).mono ?_
  rintro y w5 ⟨rfl, rfl⟩
  go_wp2_with fail
  refine HTk.out.mono ?_
  rintro y w6 hTold
  obtain ⟨⟨sX, rfl, hX⟩, hT6, ⟨bs', hG6, hsub⟩, hf6, _⟩ := hTold
  have HFr6 : Hid (Fr [] w3 w6) := hideIt (by
    have h := ((HFa.out).more (Y := w4.heap.size :: bs) (by simp)).trans hf6
    exact ⟨h.os, h.tape, h.output, h.size, fun k hk _ => h.block k hk (fun e => by
      rcases List.mem_cons.1 e with e | e
      · omega
      · have := HBs.out k e; omega)⟩)
  have huse := takeF_use 20 f g4 ⟨xs, 0⟩
  have htwo := takeF_two 20 f (50 - f) g4 ⟨xs, 0⟩
  rw [show f + (50 - f) = 50 by omega] at htwo
  have hlenA := takeF_len 20 50 g4 ⟨xs, 0⟩
  have HA' := HA3
  have HB' := HB3
  generalize (takeF 20 50 g4 ⟨xs, 0⟩).l = A at *
  have hbs' : w4.heap.size ∉ bs' := fun e => HBl.out (hsub _ e)
  have hu2 : (50 - f) * wtF 20 (takeF 20 f g4 ⟨xs, 0⟩).g ≤ 51 * 2001 := Nat.mul_le_mul (by omega) (Nat.le_trans huse.2 hwt)
  have hTk2 := take_any 20 (50 - f) w3.heap.size w4.heap.size 0 (takeF 20 f g4 ⟨xs, 0⟩).t _ _ (takeF 20 f g4 ⟨xs, 0⟩).g bs' hG6 hT6 hbs' (by omega) (by
    have h1 := huse.1
    have h2 : (⟨xs, 0⟩ : Tp).u = 0 := rfl
    rw [h2] at h1
    omega)
  rw [show ((50 - f : Nat) : Int) = 50 - (f : Int) by omega] at hTk2
  have HTk2 := hideIt hTk2
  have hlenX := takeF_len 20 f g4 ⟨xs, 0⟩
  have hlenY := takeF_len 20 (50 - f) (takeF 20 f g4 ⟨xs, 0⟩).g (takeF 20 f g4 ⟨xs, 0⟩).t
  have HXr := hideIt hX
  have hs6 := hf6.size
  have hs6b := HFr6.out.size
  clear hX hT6 hG6 hf6 hTk2 huse hu2 hu1 HTk
  go_wp2_with fail
  refine HTk2.out.mono ?_
  rintro y w7 ⟨⟨sY, rfl, hY⟩, _, _, hf7, _⟩
  clear HTk2
  generalize (takeF 20 (50 - f) (takeF 20 f g4 ⟨xs, 0⟩).g (takeF 20 f g4 ⟨xs, 0⟩).t).l = YL at *
  generalize (takeF 20 f g4 ⟨xs, 0⟩).l = XL at *
  have HFr7 : Hid (Fr [] w3 w7) := hideIt (by
    have h := ((HFr6.out).more (Y := w4.heap.size :: bs') (by simp)).trans hf7
    exact ⟨h.os, h.tape, h.output, h.size, fun k hk _ => h.block k hk (fun e => by
      rcases List.mem_cons.1 e with e | e
      · omega
      · have := HBs.out k (hsub k e); omega)⟩)
  have HF7 := hideIt (HF3.out.trans HFr7.out)
  have HA7 := hideIt (HA3.out.fr HFr7.out)
  have HB7 := hideIt (HB3.out.fr HFr7.out)
  have hX7 := ownsRow_blk HXr.out (w' := w7) (fun y hy => hf7.block y (World.ownsRow.lt HXr.out y hy).2 (fun e => by
    have h1 := (World.ownsRow.lt HXr.out y hy).1
    simp only [World.size_alloc] at h1
    rcases List.mem_cons.1 e with e | e
    · omega
    · have := HBb.out y (hsub y e); omega))
  have HX7 := hideIt hX7
  have hs7 := hf7.size
  have HYr := hideIt hY
  have hA50 : A.length ≤ 100000 := by omega
  obtain ⟨aX, cX, rfl⟩ := some_of_row hX7
  clear hf7 hY hX7 HXr HFr6 HFr7 HA3 HB3 HA' HB'
  by_cases hlt : XL.length < f
  · rw [if_pos hlt, List.append_nil] at htwo
    have hlti : (XL.length : Int) < (f : Int) := by omega
    have HM7 : Hid (w7.ownsRow w7.heap.size 45 3 (.slice none 0 0) ([] : List Cl).length (clCs [])) := hideIt (World.ownsRow_nil _ _ _ _)
    have HTwo : Hid (A = XL ++ []) := hideIt (by rw [htwo, List.append_nil])
    have HMl : Hid (([] : List Cl).length ≤ 100) := hideIt (Nat.zero_le _)
    generalize ([] : List Cl) = M at HM7 HTwo HMl
    clear htwo
    have HLen : Hid (A.length ≤ 100000) := hideIt hA50
    go_wp2_with fail
    refine (sameCalls_any A _ _ _ HA7.out HB7.out HLen.out).mono ?_
    rintro y w8 ⟨rfl, hf8⟩
    have HF8 := hideIt (HF7.out.trans hf8)
    have HA8 := hideIt (HA7.out.fr hf8)
    have HX8 := hideIt (ownsRow_blk HX7.out (fun y hy => hf8.block y (World.ownsRow.lt HX7.out y hy).2 (by simp)))
    have HY8 := hideIt (ownsRow_blk HM7.out (fun y hy => hf8.block y (World.ownsRow.lt HM7.out y hy).2 (by simp)))
    have hs8 := hf8.size
    clear hf8
    have HE9 : Hid ((w8.alloc (.cells #[] 45)).ownsRow w8.heap.size 45 3 (.slice (some ⟨w8.heap.size, 0, none⟩) 0 0) ([] : List Cl).length (clCs [])) := hideIt (owns_of_cells (Nat.le_refl _) (heap_new _ _) (Nat.le_refl _) (Nat.zero_le _) rfl rfl (fun j hj => absurd hj (by simp)))
    have HX9 := hideIt (HX8.out.alloc (.cells #[] 45))
    have HY9 := hideIt (HY8.out.alloc (.cells #[] 45))
    go_wp2_with (at_builtin; refine wpList_append_cl (by rfl) _ _ rfl w8.heap.size _ [] XL _ _ rfl rfl HE9.out HX9.out ?c1 ?c2 ?_)
    case c1 => show 0 + XL.length ≤ 5000; omega
    case c2 => rw [World.size_alloc]; omega
    intro v9 w9 h9 hg9
    have hb9 : ∀ y, y < w8.heap.size → w9.heap[y]? = w8.heap[y]? := fun y hy =>
      (hg9.block y (by rw [World.size_alloc]; omega) (fun e => by have e2 : some y = some w8.heap.size := e; injection e2 with e2; omega)).trans (Below.heap_alloc _ _ _ hy)
    have hs9 := hg9.size
    have HY10 := hideIt (ownsRow_blk HY8.out (fun y hy => hb9 y (World.ownsRow.lt HY8.out y hy).2))
    have HF9 : Hid (Fr [] w8 w9) := hideIt ⟨hg9.os, hg9.tape, hg9.output, by rw [World.size_alloc] at hs9; omega, fun k hk _ => hb9 k hk⟩
    have H9 := hideIt h9
    rw [World.size_alloc] at hs9
    clear hg9 hb9 h9 HE9 HX9 HY9
    go_wp2_with (at_builtin; refine wpList_append_cl (by rfl) _ _ rfl w8.heap.size _ XL M _ _ rfl rfl H9.out HY10.out ?c1 ?c2 ?_)
    case c1 => have := HMl.out; omega
    case c2 => omega
    intro v10 w10 h10 hg10
    have hb10 : ∀ y, y < w8.heap.size → w10.heap[y]? = w9.heap[y]? := fun y hy =>
      hg10.block y (by omega) (fun e => by have := (World.ownsRow.lt H9.out y e.symm).1; omega)
    have HF10 : Hid (Fr [] w8 w10) := hideIt (HF9.out.trans2 hg10 hb10)
    rw [← List.length_append] at h10
    have hA10 := clQ_of h10
    rw [← HTwo.out] at hA10
    have HA10 := hideIt hA10
    have HB10 := hideIt (HA8.out.fr HF10.out)
    have HF11 := hideIt (HF8.out.trans HF10.out)
    clear h10 hg10 hb10 hA10
    go_wp2_with fail
    refine (sameCalls_any A _ _ _ HB10.out HA10.out HLen.out).mono ?_
    rintro y w11 ⟨rfl, hf11⟩
    have HF12 := hideIt (HF11.out.trans hf11)
    clear hf11
    go_wp2
    go_ret
    exact ⟨rfl, HF12.out⟩
  · rw [if_neg hlt] at htwo
    have hlti : ¬ (XL.length : Int) < (f : Int) := by omega
    have HM7 := HYr
    have HTwo := hideIt htwo
    have HMl : Hid (YL.length ≤ 100) := hideIt (by omega)
    generalize YL = M at HM7 HTwo HMl
    clear htwo HYr
    have HLen : Hid (A.length ≤ 100000) := hideIt hA50
    go_wp2_with fail
    refine (sameCalls_any A _ _ _ HA7.out HB7.out HLen.out).mono ?_
    rintro y w8 ⟨rfl, hf8⟩
    have HF8 := hideIt (HF7.out.trans hf8)
    have HA8 := hideIt (HA7.out.fr hf8)
    have HX8 := hideIt (ownsRow_blk HX7.out (fun y hy => hf8.block y (World.ownsRow.lt HX7.out y hy).2 (by simp)))
    have HY8 := hideIt (ownsRow_blk HM7.out (fun y hy => hf8.block y (World.ownsRow.lt HM7.out y hy).2 (by simp)))
    have hs8 := hf8.size
    clear hf8
    have HE9 : Hid ((w8.alloc (.cells #[] 45)).ownsRow w8.heap.size 45 3 (.slice (some ⟨w8.heap.size, 0, none⟩) 0 0) ([] : List Cl).length (clCs [])) := hideIt (owns_of_cells (Nat.le_refl _) (heap_new _ _) (Nat.le_refl _) (Nat.zero_le _) rfl rfl (fun j hj => absurd hj (by simp)))
    have HX9 := hideIt (HX8.out.alloc (.cells #[] 45))
    have HY9 := hideIt (HY8.out.alloc (.cells #[] 45))
    go_wp2_with (at_builtin; refine wpList_append_cl (by rfl) _ _ rfl w8.heap.size _ [] XL _ _ rfl rfl HE9.out HX9.out ?c1 ?c2 ?_)
    case c1 => show 0 + XL.length ≤ 5000; omega
    case c2 => rw [World.size_alloc]; omega
    intro v9 w9 h9 hg9
    have hb9 : ∀ y, y < w8.heap.size → w9.heap[y]? = w8.heap[y]? := fun y hy =>
      (hg9.block y (by rw [World.size_alloc]; omega) (fun e => by have e2 : some y = some w8.heap.size := e; injection e2 with e2; omega)).trans (Below.heap_alloc _ _ _ hy)
    have hs9 := hg9.size
    have HY10 := hideIt (ownsRow_blk HY8.out (fun y hy => hb9 y (World.ownsRow.lt HY8.out y hy).2))
    have HF9 : Hid (Fr [] w8 w9) := hideIt ⟨hg9.os, hg9.tape, hg9.output, by rw [World.size_alloc] at hs9; omega, fun k hk _ => hb9 k hk⟩
    have H9 := hideIt h9
    rw [World.size_alloc] at hs9
    clear hg9 hb9 h9 HE9 HX9 HY9
    go_wp2_with (at_builtin; refine wpList_append_cl (by rfl) _ _ rfl w8.heap.size _ XL M _ _ rfl rfl H9.out HY10.out ?c1 ?c2 ?_)
    case c1 => have := HMl.out; omega
    case c2 => omega
    intro v10 w10 h10 hg10
    have hb10 : ∀ y, y < w8.heap.size → w10.heap[y]? = w9.heap[y]? := fun y hy =>
      hg10.block y (by omega) (fun e => by have := (World.ownsRow.lt H9.out y e.symm).1; omega)
    have HF10 : Hid (Fr [] w8 w10) := hideIt (HF9.out.trans2 hg10 hb10)
    rw [← List.length_append] at h10
    have hA10 := clQ_of h10
    rw [← HTwo.out] at hA10
    have HA10 := hideIt hA10
    have HB10 := hideIt (HA8.out.fr HF10.out)
    have HF11 := hideIt (HF8.out.trans HF10.out)
    clear h10 hg10 hb10 hA10
    go_wp2_with fail
    refine (sameCalls_any A _ _ _ HB10.out HA10.out HLen.out).mono ?_
    rintro y w11 ⟨rfl, hf11⟩
    have HF12 := hideIt (HF11.out.trans hf11)
    clear hf11
    go_wp2
    go_ret
    exact ⟨rfl, HF12.out⟩
/-- GenAgain, whatever comes in. -/
theorem again_any (l : Bt) (xs : List Int) (v : Value) (first : Int) (w : World) (hv : ErrV w) (hq : InQ w v xs) :
    Calls Tryd.prog 4 #[.string (ba l), v, .int .i64 first] w fun e w' => e = .returned (.bool true) ∧ Fr [] w w' := by
  by_cases h : 500 < l.length ∨ 100 < xs.length
  · exact again_long l xs v first w hq h
  · cases hp : parseF l with
    | none => exact again_none l xs v first w hv hq (fun e => h (.inl e)) (fun e => h (.inr e)) hp
    | some g => exact again_some l xs v first w hv hq (fun e => h (.inl e)) (fun e => h (.inr e)) g hp
end Go.Proofs.YtfpphckhjbgbhaaDoor.Gn
