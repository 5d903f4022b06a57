/-
  The program's behind and reads, walked: the iterator over what those read that commit.
-/
import Derived.Test.YtodanhjookgbeaaIgW
import Derived.RangeFuncNested
import Derived.RangeFuncBound
import Derived.RangeFuncCalls
import Derived.RangeFuncLeaves
import Derived.Shelf.Abstract
import Derived.OwnWalkIn
import Derived.TacticsInMore
import Derived.LoopNIn
import Derived.LoopIn
namespace Go.Proofs.Ytodanhjookgbeaa
open Go.RowKit Go.Shelf
attribute [local go_sem] Oper.semAt_some

/-- Who stands right behind one in a list, -1 if nobody does. -/
def behV (l : List Int) (f : Int) : Int := (l[(idxN l f + 1).toNat]?).getD (-1)
set_option maxRecDepth 100000 in
set_option maxHeartbeats 1000000 in
theorem behind_any (xs : List Int) (hn : xs.length ≤ maxLen) (x : Int) (a : Option Addr) (cap : Nat) (w : World) (h : IntsQ w a xs) :
    Calls Try.prog 26 #[.slice a xs.length cap, .int .i64 x] w fun e w' => e = .returned (.int .i64 (behV xs x)) ∧ w' = w := by
  have HI := hideIt (sIndex_any xs hn x a cap w h)
  have hb := @idxN_lt xs x
  have HV : Hid (behV xs x = (xs[(idxN xs x + 1).toNat]?).getD (-1)) := rfl
  generalize idxN xs x = r at *
  have HQ := hideIt h
  unfold maxLen at hn
  clear h
  obtain ⟨m, hm⟩ : ∃ m : Nat, r + 1 = (m : Int) := Int.eq_ofNat_of_zero_le (by omega)
  rw [hm, Int.toNat_natCast] at HV
  have hw : IntKind.i64.wrap (r + 1) = (m : Int) := by rw [IntKind.wrap_i64]; omega
  go_enter Try.func26, Try.ntmps26
  go_wp2_with fail
  refine HI.out.mono ?_
  rintro e w1 ⟨rfl, rfl⟩
  obtain rfl : r = (m : Int) - 1 := by omega
  rw [show (m : Int) - 1 + 1 = m by omega] at hw
  clear hm
  by_cases hl : m = xs.length
  · have HE : Hid (behV xs x = -1) := by rw [HV.out, List.getElem?_eq_none (by omega)]; rfl
    have e1 : ((m : Int) == (xs.length : Int)) = true := by rw [hl]; simp
    clear HV hl
    go_wp2
    go_ret
    exact ⟨ret_int HE.out.symm, rfl⟩
  · have hml : m < xs.length := by omega
    obtain ⟨g, off, rfl, hg, c0⟩ := HQ.out.at hml
    have HE : Hid (behV xs x = xs[m]) := by rw [HV.out, List.getElem?_eq_getElem hml]; rfl
    have e1 : ((m : Int) == (xs.length : Int)) = false := by rw [beq_eq_false_iff_ne]; omega
    have hml' : (m : Int) < xs.length := by omega
    generalize xs[m] = y at *
    clear HV
    go_wp2
    go_ret
    exact ⟨ret_int HE.out.symm, rfl⟩

/-! ### what those read that commit -/
def rdT (t : ITx) (m : Nat) : List IOp := if t.com = true then (t.ops.take m).filter (fun o => !o.wr) else []
/-- Of the first transactions. -/
def rdN (s : ISt) (n : Nat) : List (Nat × IOp) := (List.range n).flatMap fun (i : Nat) => (rdT (txI s (i : Int)) (txI s (i : Int)).ops.length).map fun o => (i, o)
/-- And of the next one's first ops. -/
def rdP (s : ISt) (i m : Nat) : List (Nat × IOp) := rdN s i ++ (rdT (txI s (i : Int)) m).map fun o => (i, o)
def rdI (s : ISt) : List (Nat × IOp) := rdN s s.txs.length
theorem rdN_succ (s : ISt) (n : Nat) : rdN s (n + 1) = rdP s n (txI s (n : Int)).ops.length := by
  unfold rdP rdN
  rw [List.range_succ, List.flatMap_append]
  simp
theorem rdP_zero (s : ISt) (i : Nat) : rdP s i 0 = rdN s i := by
  unfold rdP rdT
  simp
theorem rdP_quiet {s : ISt} {i : Nat} (h : comI s (i : Int) = false) (m : Nat) : rdP s i m = rdN s i := by
  unfold rdP rdT
  rw [show (txI s (i : Int)).com = false from h]
  simp
theorem rdP_skip {s : ISt} {i m : Nat} (hm : m < (txI s (i : Int)).ops.length) (h : (txI s (i : Int)).ops[m].wr = true) : rdP s i (m + 1) = rdP s i m := by
  unfold rdP rdT
  congr 2
  split
  · rw [List.take_add_one, List.getElem?_eq_getElem hm, List.filter_append]
    simp [h]
  · rfl
theorem rdP_more {s : ISt} {i m : Nat} (hc : comI s (i : Int) = true) (hm : m < (txI s (i : Int)).ops.length) (h : (txI s (i : Int)).ops[m].wr = false) : rdP s i (m + 1) = rdP s i m ++ [(i, (txI s (i : Int)).ops[m])] := by
  unfold rdP rdT
  rw [show (txI s (i : Int)).com = true from hc, if_pos rfl, if_pos rfl, List.take_add_one, List.getElem?_eq_getElem hm, List.filter_append]
  simp [h]
theorem rdN_pre (s : ISt) {n k : Nat} (h : n ≤ k) : rdN s n <+: rdN s k := by
  induction k with
  | zero => obtain rfl : n = 0 := by omega
            exact List.prefix_refl _
  | succ k ih =>
    by_cases e : n = k + 1
    · subst e; exact List.prefix_refl _
    · refine (ih (by omega)).trans ?_
      rw [rdN_succ]
      exact List.prefix_append _ _
theorem rdP_pre (s : ISt) {i m : Nat} (hi : i < s.txs.length) : rdP s i m <+: rdI s := by
  refine List.IsPrefix.trans ?_ (rdN_pre s (show i + 1 ≤ s.txs.length by omega))
  rw [rdN_succ]
  unfold rdP rdT
  rw [List.prefix_append_right_inj]
  refine List.IsPrefix.map _ ?_
  split
  · refine List.IsPrefix.filter _ ?_
    rw [List.take_length]
    exact List.take_prefix _ _
  · exact List.prefix_refl _
/-- The rounds. -/
abbrev RdI (s : ISt) := { k : Nat // k < (rdI s).length }
def rdA (s : ISt) (x : RdI s) : Nat × IOp := (rdI s)[x.1]
def encR (s : ISt) (x : RdI s) : Array Value := #[.int .i64 ((rdA s x).1 : Int), (rdA s x).2.agg]
theorem rd_next {s : ISt} {i m : Nat} (hi : i < s.txs.length) (hc : comI s (i : Int) = true) (hm : m < (txI s (i : Int)).ops.length) (h : (txI s (i : Int)).ops[m].wr = false) : ∃ hx : (rdP s i m).length < (rdI s).length, rdA s ⟨_, hx⟩ = (i, (txI s (i : Int)).ops[m]) := by
  have hp := rdP_pre s (i := i) (m := m + 1) hi
  rw [rdP_more hc hm h] at hp
  obtain ⟨r, hr⟩ := hp
  have hx : (rdP s i m).length < (rdI s).length := by rw [← hr]; simp
  refine ⟨hx, ?_⟩
  unfold rdA
  simp only [← hr, List.append_assoc]
  rw [List.getElem_append_right (Nat.le_refl _)]
  simp
/-- What a round keeps: all that lay below n₀, and the iterator's own boxes. -/
def KeptR (n₀ L H : Nat) (W W' : World) : Prop := Below n₀ W W' ∧ ∀ b, L ≤ b → b < H → W'.heap[b]? = W.heap[b]?
theorem keptR_t {n₀ L H : Nat} {A B C : World} (h : KeptR n₀ L H A B) (k : KeptR n₀ L H B C) : KeptR n₀ L H A C := ⟨h.1.trans k.1, fun b h1 h2 => (k.2 b h1 h2).trans (h.2 b h1 h2)⟩
theorem keptR_b {n₀ L H : Nat} {w : World} (hn : n₀ ≤ w.heap.size) (hH : H ≤ w.heap.size) (W : World) (l : Nat) (o o' : Obj) (hl : w.heap.size ≤ l) (h : W.heap[l]? = some o) (h1 : o.isCells = false) (h2 : o.isWalk = false) : KeptR n₀ L H W (W.putObj l o') :=
  ⟨belowK_b hn W l o o' hl h h1 h2, fun b _ hb => World.putObj_heap_other (by omega)⟩
/-- What the iterator holds: its story's box, the box of 'commits', and that one's own box of the story. -/
structure RdAt (w : World) (a b : Option Addr) (ca cb : Nat) (s : ISt) (n₀ L H Bs Bc Bq : Nat) : Prop where
  sty : StyQ w a ca b cb s
  lo : L ≤ Bs ∧ Bs < H ∧ L ≤ Bc ∧ Bc < H ∧ L ≤ Bq ∧ Bq < H
  box : w.cell? ⟨Bs, 0, none⟩ = some (.slice a s.txs.length ca)
  com : w.cell? ⟨Bc, 0, none⟩ = some (.func (.func 27) #[] #[.pointer (some ⟨Bq, 0, none⟩)])
  boq : w.cell? ⟨Bq, 0, none⟩ = some (.slice a s.txs.length ca)
set_option maxRecDepth 100000 in
theorem reads_any (s : ISt) (a b : Option Addr) (ca cb : Nat) (w : World) :
    Calls Try.prog 13 #[.agg #[.slice a s.txs.length ca, .slice b s.ord.length cb]] w fun e w' => e = .returned (.func (.func 29) #[] #[.pointer (some ⟨w.heap.size, 0, none⟩), .pointer (some ⟨w.heap.size + 1 + 1, 0, none⟩)]) ∧
      w' = ((w.alloc (.cells #[.slice a s.txs.length ca, .slice b s.ord.length cb] 25)).alloc (.cells #[.slice a s.txs.length ca, .slice b s.ord.length cb] 25)).alloc (.cells #[.func (.func 27) #[] #[.pointer (some ⟨w.heap.size + 1, 0, none⟩)]] 50) := by
  go_enter Try.func13, Try.ntmps13
  go_wp2_with fail
  refine (committing_any _ a b s.txs.length ca s.ord.length cb _ rfl).mono ?_
  rintro e w1 ⟨rfl, rfl⟩
  go_wp2
  go_ret
  exact ⟨rfl, rfl⟩

theorem rdSnoc {s : ISt} {pre : List (RdI s)} {k : Nat} (hk : k < (rdI s).length) (h : pre.map (·.1) = List.range k) : (pre ++ [(⟨k, hk⟩ : RdI s)]).map (fun x => x.1) = List.range (k + 1) := by
  rw [List.map_append, h, List.range_succ]; rfl
theorem rangePre (k n : Nat) (h : k ≤ n) : List.range k <+: List.range n := by
  have : List.range k = (List.range n).take k := by rw [List.take_range, Nat.min_eq_left h]
  rw [this]; exact List.take_prefix _ _
theorem RdAt.kept {w w' : World} {a b : Option Addr} {ca cb : Nat} {s : ISt} {n₀ L H Bs Bc Bq : Nat} {w₀ : World} (h : RdAt w a b ca cb s n₀ L H Bs Bc Bq) (h0 : StyQ w₀ a ca b cb s) (hn : n₀ = w₀.heap.size) (hb : Below n₀ w₀ w) (hk : KeptR n₀ L H w w') : RdAt w' a b ca cb s n₀ L H Bs Bc Bq := by
  subst hn
  exact ⟨h0.below (hb.trans hk.1), h.lo, (World.cell?_of_block (a := ⟨Bs, 0, none⟩) (hk.2 Bs h.lo.1 h.lo.2.1)).trans h.box, (World.cell?_of_block (a := ⟨Bc, 0, none⟩) (hk.2 Bc h.lo.2.2.1 h.lo.2.2.2.1)).trans h.com, (World.cell?_of_block (a := ⟨Bq, 0, none⟩) (hk.2 Bq h.lo.2.2.2.2.1 h.lo.2.2.2.2.2)).trans h.boq⟩

set_option maxRecDepth 100000 in
set_option maxHeartbeats 4000000 in
theorem reads1_in (s : ISt) (a b : Option Addr) (ca cb n₀ L H Bs Bc Bq : Nat) (n : Nat) (hn : 1 ≤ n) (y : Nat) (w₀ : World) (hw₀ : StyQ w₀ a ca b cb s) (hn₀ : n₀ = w₀.heap.size) (J Jx : List (RdI s) → World → Prop) (W : World)
    (hY : ∀ pre x W1, J pre W1 → pre.length < (rdI s).length → YieldAt Fence.wide (n - 1) Try.prog y (encR s x) W1 fun e W' =>
      (e = .returned (.bool true) ∧ J (pre ++ [x]) W' ∧ KeptR n₀ L H W1 W') ∨ (e = .returned (.bool false) ∧ Jx (pre ++ [x]) W'))
    (hJ : AbidesFrom W.heap.size J) (hH : H ≤ W.heap.size) (hR : RdAt W a b ca cb s n₀ L H Bs Bc Bq) (hb : Below n₀ w₀ W) (h0 : J [] W) :
    CallsIn Fence.wide n Try.prog 29 #[.func (.yield y) #[] #[], .pointer (some ⟨Bs, 0, none⟩), .pointer (some ⟨Bc, 0, none⟩)] W fun e W' => (∃ v, e = .returned v) ∧
      ((∃ xs, xs.map (·.1) = List.range (rdI s).length ∧ J xs W') ∨ (∃ pre, pre.map (·.1) <+: List.range (rdI s).length ∧ Jx pre W')) := by
  have HY := hideIt hY
  have HJ := hideIt hJ
  have HW0 := hideIt hw₀
  have HR := hideIt hR
  have HB := hideIt hb
  have hm := hw₀.tmax
  have hx0 := hR.box
  have hx1 := hR.com
  have hlo := hR.lo
  unfold maxLen at hm
  clear hY hJ hw₀ hR hb
  refine callsIn_of_wp Try.func29 rfl trivial ?_ rfl
  simp only [Try.ntmps29, List.size_toArray, List.length_cons, List.length_nil, Nat.reduceAdd, Nat.reduceSub, Array.replicate_succ, Array.replicate_zero, List.push_toArray, List.append_toArray, List.nil_append, List.cons_append]
  gi_wp2
  gi_loopw [10] (fun p wr => ∃ (i : Nat) (pre : List (RdI s)), i ≤ s.txs.length ∧ p = .int .i64 i ∧ pre.map (·.1) = List.range (rdN s i).length ∧ RdAt wr a b ca cb s n₀ L H Bs Bc Bq ∧ J pre wr ∧ Below n₀ w₀ wr ∧ W.heap.size ≤ wr.heap.size)
    (fun p _ => s.txs.length - (intOf p).toNat)
  case atStart => exact ⟨0, [], Nat.zero_le _, rfl, rfl, HR.out, h0, HB.out, Nat.le_refl _⟩
  case round =>
    clear HR HB hx0 hx1
    obtain ⟨i, pre, hi, rfl, hpre, hR, hJs, hb, hsz⟩ := hrel
    have HPR := hideIt hpre
    have HJS := hideIt hJs
    have HR := hideIt hR
    have HB := hideIt hb
    have hx0 := hR.box
    have hx1 := hR.com
    clear hJs hpre hR hb
    by_cases hin : i < s.txs.length
    · have hin' : (i : Int) < s.txs.length := by omega
      have HC := hideIt (commits_any s a b ca cb Bq i wr HR.out.sty HR.out.boq hin)
      obtain ⟨g, off, rfl, hg, oa, oc, o1, o2, o3, o4, o5⟩ := HW0.out.tx hin
      have HO := hideIt o4
      have HTx : Hid (txI s (i : Int) = s.txs[i]) := txI_at hin
      have o1 := (HB.out.cell (p := ⟨g, off + i * 2, none⟩) (by show g < n₀; omega)).trans o1
      have HMo : Hid (∀ m (hm : m < s.txs[i].ops.length), comI s (i : Int) = true → s.txs[i].ops[m].wr = false → rdP s i (m + 1) = rdP s i m ++ [(i, s.txs[i].ops[m])] ∧ ∃ hx : (rdP s i m).length < (rdI s).length, rdA s ⟨_, hx⟩ = (i, s.txs[i].ops[m])) := fun m hm hc h => by
        have h1 : m < (txI s (i : Int)).ops.length := by rw [HTx.out]; exact hm
        have h2 : (txI s (i : Int)).ops[m] = s.txs[i].ops[m] := by simp only [HTx.out]
        rw [← h2] at h ⊢
        exact ⟨rdP_more hc h1 h, rd_next hin hc h1 h⟩
      have HSk : Hid (∀ m (hm : m < s.txs[i].ops.length), s.txs[i].ops[m].wr = true → rdP s i (m + 1) = rdP s i m) := fun m hm h => by
        have h1 : m < (txI s (i : Int)).ops.length := by rw [HTx.out]; exact hm
        have h2 : (txI s (i : Int)).ops[m] = s.txs[i].ops[m] := by simp only [HTx.out]
        rw [← h2] at h
        exact rdP_skip h1 h
      have HEn : Hid (rdN s (i + 1) = rdP s i s.txs[i].ops.length) := by
        show rdN s (i + 1) = _
        rw [rdN_succ, HTx.out]
      generalize s.txs[i] = T at *
      unfold maxLen at o3
      clear o4 o5
      gi_wp2
      refine ⟨trivial, ?_⟩
      refine (callsIn_wide.2 HC.out).mono ?_
      rintro e w2 ⟨rfl, rfl⟩
      clear HC
      cases hco : comI s (i : Int)
      · have HPN : Hid (pre.map (·.1) = List.range (rdN s (i + 1)).length) := by
          show pre.map (·.1) = _
          rw [HEn.out, rdP_quiet hco]
          exact HPR.out
        clear HMo HSk HEn
        gi_wp2
        exact ⟨⟨i + 1, pre, by omega, by go_num, HPN.out, HR.out, HJS.out, HB.out, hsz⟩, by simp [intOf]; omega⟩
      · gi_wp2
        gi_loopw [24] (fun p wz => ∃ (m : Nat) (pre : List (RdI s)), m ≤ T.ops.length ∧ p = .int .i64 m ∧ pre.map (·.1) = List.range (rdP s i m).length ∧ RdAt wz (some ⟨g, off, none⟩) b ca cb s n₀ L H Bs Bc Bq ∧ J pre wz ∧ Below n₀ w₀ wz ∧ W.heap.size ≤ wz.heap.size)
          (fun p _ => T.ops.length - (intOf p).toNat)
        case atStart => exact ⟨0, pre, Nat.zero_le _, rfl, by rw [rdP_zero]; exact HPR.out, HR.out, HJS.out, HB.out, hsz⟩
        case round =>
          clear HR HB hx0 hx1 HPR HJS hsz o1
          obtain ⟨m, pre, hm, rfl, hpre, hR, hJs, hb, hsz⟩ := hrel
          have HPR := hideIt hpre
          have HJS := hideIt hJs
          have HR := hideIt hR
          have HB := hideIt hb
          have hplen : pre.length = (rdP s i m).length := by have := congrArg List.length hpre; simpa using this
          clear hJs hpre hR hb
          by_cases hml : m < T.ops.length
          · have hml' : (m : Int) < T.ops.length := by omega
            obtain ⟨g2, off2, rfl, hg2, p1, p2, p3, p4⟩ := (HO.out.below (hn₀ ▸ HB.out)).at hml
            have HMm := hideIt (HMo.out m hml hco)
            have HSm := hideIt (HSk.out m hml)
            generalize T.ops[m] = o at *
            obtain ⟨owr, okey, ofrm, onum⟩ := o
            have HJ2 := hideIt (HJ.out pre wr (wr.alloc (.cells #[.bool owr, .int .i64 okey, .int .i64 ofrm, .int .i64 onum] 43)) none HJS.out (World.grownBy_alloc _ _ none) (fun r e => by cases e))
            have HKa : Hid (KeptR n₀ L H wr (wr.alloc (.cells #[.bool owr, .int .i64 okey, .int .i64 ofrm, .int .i64 onum] 43))) := ⟨(Below.refl _ _).alloc (by have := HB.out.size; omega) _, fun x _ hx => Below.heap_alloc _ _ _ (by omega)⟩
            have HR2 := hideIt (HR.out.kept HW0.out hn₀ HB.out HKa.out)
            have HB2 := hideIt (HB.out.trans HKa.out.1)
            have hs2 : W.heap.size ≤ (wr.alloc (.cells #[.bool owr, .int .i64 okey, .int .i64 ofrm, .int .i64 onum] 43)).heap.size := by simp; omega
            cases owr
            · obtain ⟨hPm, hx, hA⟩ := HMm.out rfl
              have HPm := hideIt hPm
              obtain ⟨fn, tmps, assign, body, hy, hYR⟩ := HY.out pre ⟨_, hx⟩ _ HJ2.out (by omega)
              unfold encR at hy
              rw [hA] at hy
              dsimp only [IOp.agg] at hy
              have HYR := hideIt hYR
              clear hYR HMm HSm hPm hA
              gi_wp2
              refine HYR.out.mono ?_
              rintro e W3 (⟨rfl, hJ3, hk3⟩ | ⟨rfl, hJx3⟩)
              · have HJ3 := hideIt hJ3
                have HK3 := hideIt hk3
                have HR3 := hideIt (HR2.out.kept HW0.out hn₀ HB2.out hk3)
                have HB3 := hideIt (HB2.out.trans hk3.1)
                have hs3 : W.heap.size ≤ W3.heap.size := Nat.le_trans hs2 hk3.1.size
                have HPN : Hid ((pre ++ [(⟨_, hx⟩ : RdI s)]).map (·.1) = List.range (rdP s i (m + 1)).length) := by
                  show (pre ++ [(⟨_, hx⟩ : RdI s)]).map (·.1) = _
                  rw [HPm.out, List.length_append, rdSnoc hx HPR.out]; rfl
                clear hJ3 hk3
                gi_wp2
                exact ⟨⟨m + 1, _, by omega, by go_num, HPN.out, HR3.out, HJ3.out, HB3.out, hs3⟩, by simp [intOf]; omega⟩
              · have HE : Hid ((∃ v : Value, Ending.returned (.tuple #[]) = .returned v) ∧ ((∃ xs : List (RdI s), xs.map (·.1) = List.range (rdI s).length ∧ J xs W3) ∨ (∃ pre : List (RdI s), pre.map (·.1) <+: List.range (rdI s).length ∧ Jx pre W3))) :=
                  ⟨⟨_, rfl⟩, .inr ⟨_, by rw [rdSnoc hx HPR.out]; exact rangePre _ _ (by omega), hJx3⟩⟩
                clear hJx3
                gi_wp2
                refine bodyPost_ret (results_none rfl _ _ _) rfl ?_
                exact HE.out
            · have HPN : Hid (pre.map (·.1) = List.range (rdP s i (m + 1)).length) := by
                show pre.map (·.1) = _
                rw [HSm.out rfl]
                exact HPR.out
              clear HMm HSm
              gi_wp2
              refine ⟨fun _ h => (by cases h), ?_⟩
              gi_wp2
              exact ⟨⟨m + 1, pre, by omega, by go_num, HPN.out, HR2.out, HJ2.out, HB2.out, hs2⟩, by simp [intOf]; omega⟩
          · have HPN : Hid (pre.map (·.1) = List.range (rdN s (i + 1)).length) := by
              show pre.map (·.1) = _
              rw [HEn.out, show T.ops.length = m by omega]
              exact HPR.out
            gi_wp2
            exact ⟨⟨i + 1, pre, by omega, by go_num, HPN.out, HR.out, HJS.out, HB.out, hsz⟩, by simp [intOf]; omega⟩
    · have HPN : Hid (pre.map (·.1) = List.range (rdI s).length) := by
        show pre.map (·.1) = _
        rw [HPR.out]
        unfold rdI
        rw [show i = s.txs.length by omega]
      have HE : Hid ((∃ v : Value, Ending.returned (.tuple #[]) = .returned v) ∧ ((∃ xs : List (RdI s), xs.map (·.1) = List.range (rdI s).length ∧ J xs wr) ∨ (∃ pre : List (RdI s), pre.map (·.1) <+: List.range (rdI s).length ∧ Jx pre wr))) :=
        ⟨⟨_, rfl⟩, .inl ⟨pre, HPN.out, HJS.out⟩⟩
      gi_wp2
      go_end0
      exact HE.out
theorem reads_stops (s : ISt) (a b : Option Addr) (ca cb n₀ L H Bs Bc Bq : Nat) (n : Nat) (hn : 1 ≤ n) (w₀ w : World) (hw₀ : StyQ w₀ a ca b cb s) (hn₀ : n₀ = w₀.heap.size) (hb : Below n₀ w₀ w) (hH : H ≤ w.heap.size) (hR : RdAt w a b ca cb s n₀ L H Bs Bc Bq) :
    SeqStopsK Fence.wide n Try.prog 29 #[.pointer (some ⟨Bs, 0, none⟩), .pointer (some ⟨Bc, 0, none⟩)] (encR s) (KeptR n₀ L H) (fun xs => xs.map (fun x => x.1) = List.range (rdI s).length) (fun pre => pre.map (fun x => x.1) <+: List.range (rdI s).length) (rdI s).length w :=
  fun y J Jx W hW hJ _ hY h0 => reads1_in s a b ca cb n₀ L H Bs Bc Bq n hn y w₀ hw₀ hn₀ J Jx W hY hJ (Nat.le_trans hH hW.size) (hR.kept hw₀ hn₀ hb ⟨hW.mono (by have := hb.size; omega), fun x _ hx => hW.block x (by omega)⟩) (hb.trans (hW.mono (by have := hb.size; omega))) h0
end Go.Proofs.Ytodanhjookgbeaa
