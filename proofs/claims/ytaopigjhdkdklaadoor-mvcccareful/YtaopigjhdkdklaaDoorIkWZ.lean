/-
  The small functions of package isolate, walked: isKey, isOther, isLast, committing.
  The program's versionsOf, walked: how often each transaction writes each key.
  slices.Index and slices.Contains at numbers, walked.
-/
import Derived.Test.YtaopigjhdkdklaaDoorIsM
import Derived.Deep.MidRow
import Derived.Deep.WholeRow
namespace Go.Proofs.YtaopigjhdkdklaaDoor
open Go.RowKit

def keyB (t : Int) : Bool := decide (0 ≤ t) && decide (t < 8)
theorem keyB_iff {t : Int} : keyB t = true ↔ 0 ≤ t ∧ t ≤ 7 := by
  unfold keyB
  simp
  omega
set_option maxRecDepth 100000 in
theorem isKey_any (t : Int) (w : World) : Calls Tryd.prog 62 #[.int .i64 t] w fun e w' => e = .returned (.bool (keyB t)) ∧ w' = w := by
  unfold keyB
  go_enter Tryd.func62, Tryd.ntmps62
  by_cases h : 0 ≤ t
  · by_cases h2 : t < 8
    · rw [decide_eq_true h, decide_eq_true h2]
      go_wp2
      go_ret
      exact ⟨rfl, rfl⟩
    · rw [decide_eq_true h, decide_eq_false h2]
      go_wp2
      go_ret
      exact ⟨rfl, rfl⟩
  · rw [decide_eq_false h]
    go_wp2
    go_ret
    exact ⟨rfl, rfl⟩
/-- Is what is read another one's? -/
def othB (t : Int) (o : IOp) : Bool := o.frm != -1 && o.frm != t
set_option maxRecDepth 100000 in
theorem isOther_any (t : Int) (o : IOp) (w : World) : Calls Tryd.prog 37 #[.int .i64 t, o.agg] w fun e w' => e = .returned (.bool (othB t o)) ∧ Below w.heap.size w w' := by
  have HB : Hid (Below w.heap.size w (w.alloc (.cells #[.bool o.wr, .int .i64 o.key, .int .i64 o.frm, .int .i64 o.num] 84))) := belA (Below.refl _ _) _
  have c2 : (w.alloc (.cells #[.bool o.wr, .int .i64 o.key, .int .i64 o.frm, .int .i64 o.num] 84)).cell? ⟨w.heap.size, 2, none⟩ = some (.int .i64 o.frm) := by simp
  unfold othB IOp.agg
  obtain ⟨wr, key, frm, num⟩ := o
  dsimp only at *
  go_enter Tryd.func37, Tryd.ntmps37
  by_cases h : frm = -1
  · have h1 : (frm != -1) = false := by simp [h]
    rw [h1]
    subst h
    go_wp2
    go_ret
    exact ⟨rfl, HB.out⟩
  · have h1 : (frm != -1) = true := by simp [h]
    rw [h1]
    go_wp2
    go_ret
    exact ⟨rfl, HB.out⟩
set_option maxRecDepth 100000 in
theorem committing_any (v : Value) (a b : Option Addr) (n ca m cb : Nat) (w : World) (hv : v = .agg #[.slice a n ca, .slice b m cb]) :
    Calls Tryd.prog 34 #[v] w fun e w' => e = .returned (.func (.func 61) #[] #[.pointer (some ⟨w.heap.size, 0, none⟩)]) ∧ w' = w.alloc (.cells #[.slice a n ca, .slice b m cb] 44) := by
  subst hv
  go_enter Tryd.func34, Tryd.ntmps34
  go_wp2
  go_ret
  exact ⟨rfl, rfl⟩
set_option maxRecDepth 100000 in
theorem commits_any (s : ISt) (a b : Option Addr) (ca cb Bx i : Nat) (w : World) (h : StyQ w a ca b cb s) (hB : w.cell? ⟨Bx, 0, none⟩ = some (.slice a s.txs.length ca)) (hi : i < s.txs.length) :
    Calls Tryd.prog 61 #[.int .i64 (i : Int), .pointer (some ⟨Bx, 0, none⟩)] w fun e w' => e = .returned (.bool (comI s i)) ∧ w' = w := by
  obtain ⟨g, off, rfl, hg, _, _, _, _, _, _, hc⟩ := h.tx hi
  have hco : comI s (i : Int) = s.txs[i].com := by unfold comI; rw [txI_at hi]
  rw [hco]
  have hi' : (i : Int) < s.txs.length := by omega
  have hm := h.tmax
  unfold maxLen at hm
  go_enter Tryd.func61, Tryd.ntmps61
  go_wp2
  go_ret
  exact ⟨rfl, rfl⟩
theorem size77 : (Tryd.prog.info? 104).map (·.size) = some 64 := by kernel_rfl
/-- Is what is read the last version? -/
def lastB (f : Nat → Nat → Nat) (o : IOp) : Bool := o.num == (f o.frm.toNat o.key.toNat : Int) - 1
set_option maxRecDepth 100000 in
theorem isLast_any (f : Nat → Nat → Nat) (o : IOp) (w : World) (h0 : 0 ≤ o.frm) (h8 : o.frm < 8) (k0 : 0 ≤ o.key) (k8 : o.key < 8) (hf : f o.frm.toNat o.key.toNat ≤ 1000) :
    Calls Tryd.prog 38 #[verA f, o.agg] w fun e w' => e = .returned (.bool (lastB f o)) ∧ Below w.heap.size w w' := by
  obtain ⟨wr, key, frm, num⟩ := o
  dsimp only at *
  obtain ⟨fr, rfl⟩ := Int.eq_ofNat_of_zero_le h0
  obtain ⟨ky, rfl⟩ := Int.eq_ofNat_of_zero_le k0
  unfold lastB
  dsimp only
  rw [Int.toNat_natCast, Int.toNat_natCast] at hf ⊢
  have hv := ((verB_new w f 104).alloc (.cells #[.bool wr, .int .i64 (ky : Int), .int .i64 (fr : Int), .int .i64 num] 84)).at (i := fr) (j := ky) (by omega) (by omega)
  have HB : Hid (Below w.heap.size w ((w.alloc (.cells (verL f).toArray 104)).alloc (.cells #[.bool wr, .int .i64 (ky : Int), .int .i64 (fr : Int), .int .i64 num] 84))) := belA (belA (Below.refl _ _) _) _
  unfold verA IOp.agg
  dsimp only
  generalize f fr ky = x at hv hf ⊢
  generalize (verL f).toArray = cs at hv HB ⊢
  go_enter Tryd.func38, Tryd.ntmps38
  go_wp2
  go_quiet (fail)
  go_wp2
  go_ret
  exact ⟨rfl, below_drewN HB.out _⟩
end Go.Proofs.YtaopigjhdkdklaaDoor

namespace Go.Proofs.YtaopigjhdkdklaaDoor
open Go.RowKit

/-- How often each writes each key. -/
def verF (s : ISt) (i k : Nat) : Nat := wroI s (i : Int) (k : Int)
/-- Of the first transactions, and of the next one's first ops. -/
def verM (s : ISt) (n m : Nat) (i k : Nat) : Nat := if i < n then verF s i k else if i = n then wroT ⟨(txI s (n : Int)).ops.take m, false⟩ k else 0
theorem verM_start (s : ISt) (i k : Nat) : verM s 0 0 i k = 0 := by
  unfold verM
  by_cases h : i = 0 <;> simp [h, wroT]
theorem verM_end (s : ISt) (n i k : Nat) : verM s n (txI s (n : Int)).ops.length i k = verM s (n + 1) 0 i k := by
  unfold verM
  by_cases h : i < n
  · rw [if_pos h, if_pos (by omega)]
  · by_cases h2 : i = n
    · subst h2
      rw [if_neg h, if_pos rfl, if_pos (by omega), List.take_length]
      rfl
    · rw [if_neg h, if_neg h2, if_neg (by omega)]
      by_cases h3 : i = n + 1
      · rw [if_pos h3]; simp [wroT]
      · rw [if_neg h3]
theorem wroT_take (l : List IOp) (m : Nat) (hm : m < l.length) (k : Int) : wroT ⟨l.take (m + 1), false⟩ k = wroT ⟨l.take m, false⟩ k + if l[m].wr && l[m].key == k then 1 else 0 := by
  unfold wroT
  simp only
  rw [List.take_add_one, List.getElem?_eq_getElem hm, List.countP_append]
  simp [List.countP_cons]
theorem wroT_le (l : List IOp) (m : Nat) (k : Int) : wroT ⟨l.take m, false⟩ k ≤ m := by
  unfold wroT
  exact Nat.le_trans List.countP_le_length (by simp; omega)
theorem verM_skip (s : ISt) (n m : Nat) (hm : m < (txI s (n : Int)).ops.length) (h : (txI s (n : Int)).ops[m].wr = true → ¬ (0 ≤ (txI s (n : Int)).ops[m].key ∧ (txI s (n : Int)).ops[m].key ≤ 7)) (i k : Nat) (hk : k < 8) : verM s n m i k = verM s n (m + 1) i k := by
  unfold verM
  by_cases h1 : i < n
  · rw [if_pos h1, if_pos h1]
  · by_cases h2 : i = n
    · rw [if_neg h1, if_neg h1, if_pos h2, if_pos h2, wroT_take _ _ hm]
      rw [if_neg (by
        intro hc
        rw [Bool.and_eq_true, beq_iff_eq] at hc
        exact h hc.1 (by omega))]
      rfl
    · rw [if_neg h1, if_neg h1, if_neg h2, if_neg h2]
theorem verM_put (s : ISt) (n m : Nat) (hm : m < (txI s (n : Int)).ops.length) (h : (txI s (n : Int)).ops[m].wr = true) (q : Nat) (hq : (txI s (n : Int)).ops[m].key = (q : Int)) (i k : Nat) : (if i = n ∧ k = q then verM s n m n q + 1 else verM s n m i k) = verM s n (m + 1) i k := by
  by_cases h2 : i = n
  · subst h2
    unfold verM
    simp only [Nat.lt_irrefl, if_false, if_true]
    rw [wroT_take _ _ hm, h, hq]
    by_cases h3 : k = q
    · subst h3
      simp
    · have : ¬ ((q : Int) = (k : Int)) := by omega
      simp [h3, this]
  · rw [if_neg (by omega)]
    unfold verM
    rw [if_neg h2, if_neg h2]
theorem verM_le (s : ISt) (n m q : Nat) : verM s n m n q ≤ m := by
  unfold verM
  rw [if_neg (by omega), if_pos rfl]
  exact wroT_le _ _ _
theorem zero77 : (Tryd.prog.info? 104).map (fun i => (i.zero, i.size)) = some (some (verA fun _ _ => 0), 64) := by kernel_rfl

theorem zeros77 : (#[.int .i64 0, .int .i64 0, .int .i64 0, .int .i64 0, .int .i64 0, .int .i64 0, .int .i64 0, .int .i64 0, .int .i64 0, .int .i64 0, .int .i64 0, .int .i64 0, .int .i64 0, .int .i64 0, .int .i64 0, .int .i64 0, .int .i64 0, .int .i64 0, .int .i64 0, .int .i64 0, .int .i64 0, .int .i64 0, .int .i64 0, .int .i64 0, .int .i64 0, .int .i64 0, .int .i64 0, .int .i64 0, .int .i64 0, .int .i64 0, .int .i64 0, .int .i64 0, .int .i64 0, .int .i64 0, .int .i64 0, .int .i64 0, .int .i64 0, .int .i64 0, .int .i64 0, .int .i64 0, .int .i64 0, .int .i64 0, .int .i64 0, .int .i64 0, .int .i64 0, .int .i64 0, .int .i64 0, .int .i64 0, .int .i64 0, .int .i64 0, .int .i64 0, .int .i64 0, .int .i64 0, .int .i64 0, .int .i64 0, .int .i64 0, .int .i64 0, .int .i64 0, .int .i64 0, .int .i64 0, .int .i64 0, .int .i64 0, .int .i64 0, .int .i64 0] : Array Value) = (verL fun _ _ => 0).toArray := by kernel_rfl

theorem verS (f : Nat → Nat → Nat) : (verL f).toArray.size = 64 := by simp [verL]
theorem VerB.store {w : World} {g : Nat} {f : Nat → Nat → Nat} (h : VerB w g f) (u : Nat → Nat → Nat) : VerB (w.setCells g 0 (verL u)) g u := by
  have ht := h.there
  obtain ⟨t, hh⟩ := h
  obtain ⟨cur', hc', hs⟩ := heap_setCells (verL u) 0 w _ hh
  have hr := World.rangeAt_setCells_same w g 0 (verL u) (by rw [verL_len]; exact ht)
  refine ⟨t, ?_⟩
  have e : cur' = (verL u).toArray := by
    refine Array.ext_getElem? fun j => ?_
    rw [verS] at hs
    by_cases hj : j < 64
    · have hj' : j < (verL u).length := by rw [verL_len]; exact hj
      have := hr j _ (List.getElem?_eq_getElem hj')
      rw [Nat.zero_add, cell_of_row _ _ _ _ t _ hc'] at this
      rw [this, List.getElem?_toArray, List.getElem?_eq_getElem hj']
    · rw [Array.getElem?_eq_none (by omega), List.getElem?_toArray, List.getElem?_eq_none (by rw [verL_len]; omega)]
  rw [hc', e]
theorem VerB.load {w : World} {g : Nat} {f : Nat → Nat → Nat} (h : VerB w g f) : (loadVar 104 ⟨g, 0, none⟩).run Tryd.prog w = .ok (verA f) w :=
  run_loadVar_mid w g 0 104 (verL f) _ h.range Tryd.underlying104 rfl (by rw [verL_len]; exact size77)
theorem results_one {fn : Func} {p : Tmp} {ty : TypeId} (h : fn.results = #[.cell p ty]) (tmps : Array Value) (w : World) (g : Nat) (v : Value)
    (hp : tmps.getD p undef = .pointer (some ⟨g, 0, none⟩)) (hl : (loadVar ty ⟨g, 0, none⟩).run Tryd.prog w = .ok v w) : (results fn tmps).run Tryd.prog w = .ok v w := by
  have hp' : tmps[p]?.getD undef = .pointer (some ⟨g, 0, none⟩) := by simpa using hp
  simp [results, h, hp', asAddr, hl]
theorem VerB.drew {w : World} {g : Nat} {f : Nat → Nat → Nat} (h : VerB w g f) : VerB w.drew g f := h.block rfl
theorem cellA {w : World} {o : Obj} {p : Addr} {x : Value} (h : w.cell? p = some x) : (w.alloc o).cell? p = some x := by
  rw [World.cell?_alloc_lt _ _ p (World.block_lt_of_cell? w _ h)]
  exact h
theorem fzA {w : World} {o : Obj} {p : Addr} (hp : p.block < w.heap.size) (h : w.frozen? p = false) : (w.alloc o).frozen? p = false := by
  rw [World.frozen?_alloc_old _ _ p (Nat.ne_of_lt hp)]
  exact h
theorem box2 (w : World) (x y : Value) (t : TypeId) : (w.alloc (.cells #[x, y] t)).cell? ⟨w.heap.size, 0, none⟩ = some x ∧ (w.alloc (.cells #[x, y] t)).cell? ⟨w.heap.size, 1, none⟩ = some y := by
  constructor <;> rw [cell_of_row _ _ _ _ t _ (heap_alloc_new w _)] <;> rfl

set_option maxRecDepth 100000 in
set_option maxHeartbeats 2000000 in
theorem versionsOf_any (s : ISt) (a b : Option Addr) (ca cb : Nat) (w : World) (h : StyQ w a ca b cb s) (h8 : s.txs.length ≤ 8) :
    Calls Tryd.prog 35 #[.agg #[.slice a s.txs.length ca, .slice b s.ord.length cb]] w fun e w' => e = .returned (verA (verF s)) ∧ Below w.heap.size w w' := by
  have HS := hideIt h
  clear h
  go_enter Tryd.func35, Tryd.ntmps35
  go_wp2
  rw [zeros77]
  have HV0 : Hid (VerB (((w.alloc (.cells #[.slice a s.txs.length ca, .slice b s.ord.length cb] 44)).alloc (.cells (verL fun _ _ => 0).toArray 104)).alloc (.cells (verL fun _ _ => 0).toArray 104)) (w.heap.size + 1) (fun _ _ => 0)) := by
    have := (verB_new (w.alloc (.cells #[.slice a s.txs.length ca, .slice b s.ord.length cb] 44)) (fun _ _ => 0) 104).alloc (.cells (verL fun _ _ => 0).toArray 104)
    rw [World.size_alloc] at this
    exact this
  have HV1 : Hid (VerB (((w.alloc (.cells #[.slice a s.txs.length ca, .slice b s.ord.length cb] 44)).alloc (.cells (verL fun _ _ => 0).toArray 104)).alloc (.cells (verL fun _ _ => 0).toArray 104)) (w.heap.size + 1 + 1) (fun _ _ => 0)) := by
    have := verB_new ((w.alloc (.cells #[.slice a s.txs.length ca, .slice b s.ord.length cb] 44)).alloc (.cells (verL fun _ _ => 0).toArray 104)) (fun _ _ => 0) 104
    rw [World.size_alloc, World.size_alloc] at this
    exact this
  have HB : Hid (Below w.heap.size w (((w.alloc (.cells #[.slice a s.txs.length ca, .slice b s.ord.length cb] 44)).alloc (.cells (verL fun _ _ => 0).toArray 104)).alloc (.cells (verL fun _ _ => 0).toArray 104))) := belA (belA (belA (Below.refl _ _) _) _) _
  have hc0 : (((w.alloc (.cells #[.slice a s.txs.length ca, .slice b s.ord.length cb] 44)).alloc (.cells (verL fun _ _ => 0).toArray 104)).alloc (.cells (verL fun _ _ => 0).toArray 104)).cell? ⟨w.heap.size, 0, none⟩ = some (.slice a s.txs.length ca) := cellA (cellA (box2 w _ _ _).1)
  have HC := hideIt hc0
  clear hc0
  generalize hW : ((w.alloc _).alloc _).alloc _ = W at HV0 HV1 HB HC ⊢
  clear hW
  go_loopw [10] (fun i wr => ∃ k : Nat, k ≤ s.txs.length ∧ i = .int .i64 k ∧ VerB wr (w.heap.size + 1) (fun _ _ => 0) ∧ VerB wr (w.heap.size + 1 + 1) (verM s k 0) ∧ wr.cell? ⟨w.heap.size, 0, none⟩ = some (.slice a s.txs.length ca) ∧ Below w.heap.size w wr) (fun i _ => s.txs.length - (intOf i).toNat)
  case atStart => exact ⟨0, by omega, rfl, HV0.out, HV1.out.same fun i k _ _ => (verM_start s i k).symm, HC.out, HB.out⟩
  case round =>
    clear HV0 HV1 HB HC
    obtain ⟨i, hi, rfl, hv0, hv1, hc, hb⟩ := hrel
    have HV0 := hideIt hv0
    have HV1 := hideIt hv1
    have HB := hideIt hb
    clear hv0 hv1 hb
    by_cases hin : i < s.txs.length
    · have hin' : (i : Int) < s.txs.length := by omega
      obtain ⟨g, off, rfl, hg, oa, oc, o1, o2, o3, o4, o5⟩ := HS.out.tx hin
      have HO := hideIt o4
      have HTx : Hid (txI s (i : Int) = s.txs[i]) := txI_at hin
      have o1 := (HB.out.cell (p := ⟨g, off + i * 2, none⟩) hg).trans o1
      generalize s.txs[i] = T at *
      clear o4 o5
      unfold maxLen at o3
      go_wp2
      go_loopw [20] (fun q wz => ∃ m : Nat, m ≤ T.ops.length ∧ q = .int .i64 m ∧ VerB wz (w.heap.size + 1) (fun _ _ => 0) ∧ VerB wz (w.heap.size + 1 + 1) (verM s i m) ∧ wz.cell? ⟨w.heap.size, 0, none⟩ = some (.slice (some ⟨g, off, none⟩) s.txs.length ca) ∧ Below w.heap.size w wz) (fun q _ => T.ops.length - (intOf q).toNat)
      case atStart => exact ⟨0, by omega, rfl, HV0.out, HV1.out, hc, HB.out⟩
      case round =>
        clear HV0 HV1 HB hc o1
        obtain ⟨m, hm, rfl, hv0, hv1, hc, hb⟩ := hrel
        have HV0 := hideIt hv0
        have HV1 := hideIt hv1
        have HB := hideIt hb
        clear hv0 hv1 hb
        by_cases hml : m < T.ops.length
        · have hml' : (m : Int) < T.ops.length := by omega
          obtain ⟨g2, off2, rfl, hg2, p1, p2, p3, p4⟩ := (HO.out.below HB.out).at hml
          have HPut : Hid (∀ q : Nat, q < 8 → T.ops[m].wr = true → T.ops[m].key = (q : Int) → ∀ ob, VerB ((wr.alloc ob).setCell ⟨w.heap.size + 1 + 1, i * 8 + q, none⟩ (.int .i64 ((verM s i m i q + 1 : Nat) : Int))) (w.heap.size + 1 + 1) (verM s i (m + 1))) := fun q hq h1 h2 ob =>
            ((HV1.out.alloc ob).put (by omega) hq _).same fun x y _ _ => verM_put s i m (by rw [HTx.out]; exact hml) (by simp only [HTx.out]; exact h1) q (by simp only [HTx.out]; exact h2) x y
          have HSkip : Hid ((T.ops[m].wr = true → ¬ (0 ≤ T.ops[m].key ∧ T.ops[m].key ≤ 7)) → VerB wr (w.heap.size + 1 + 1) (verM s i (m + 1))) := fun h1 =>
            HV1.out.same fun x y _ hy => verM_skip s i m (by rw [HTx.out]; exact hml) (by simp only [HTx.out]; exact h1) x y hy
          have HAt : Hid (∀ q : Nat, q < 8 → wr.cell? ⟨w.heap.size + 1 + 1, i * 8 + q, none⟩ = some (.int .i64 (verM s i m i q : Int))) := fun q hq => HV1.out.at (by omega) hq
          have hle : ∀ q, verM s i m i q ≤ m := verM_le s i m
          generalize T.ops[m] = o at *
          obtain ⟨owr, okey, ofrm, onum⟩ := o
          dsimp only at *
          cases owr
          · have HN := hideIt (HSkip.out (by simp))
            clear HSkip HPut HAt
            go_wp2
            exact ⟨⟨m + 1, by omega, by go_num, HV0.out.alloc _, HN.out.alloc _, cellA hc, belA HB.out _⟩, by simp [intOf]; omega⟩
          · go_wp2_with fail
            refine (isKey_any _ _).mono ?_
            rintro e w1 ⟨rfl, rfl⟩
            cases hk : keyB okey
            · have HN := hideIt (HSkip.out (fun _ h1 => by have := keyB_iff.2 h1; rw [hk] at this; cases this))
              clear HSkip HPut HAt
              go_wp2
              exact ⟨⟨m + 1, by omega, by go_num, HV0.out.alloc _, HN.out.alloc _, cellA hc, belA HB.out _⟩, by simp [intOf]; omega⟩
            · obtain ⟨k0, k7⟩ := keyB_iff.1 hk
              obtain ⟨q, rfl⟩ := Int.eq_ofNat_of_zero_le k0
              have HN := hideIt (HPut.out q (by omega) (by trivial) rfl (.cells #[.bool true, .int .i64 (q : Int), .int .i64 ofrm, .int .i64 onum] 84))
              have hat := cellA (o := .cells #[.bool true, .int .i64 (q : Int), .int .i64 ofrm, .int .i64 onum] 84) (HAt.out q (by omega))
              have hlq := hle q
              clear HSkip HPut HAt hle
              generalize verM s i m i q = x at *
              have hfz : (wr.alloc (.cells #[.bool true, .int .i64 (q : Int), .int .i64 ofrm, .int .i64 onum] 84)).frozen? ⟨w.heap.size + 1 + 1, i * 8 + q, none⟩ = false := fzA HV1.out.lt (HV1.out.fz _)
              have HV0' := hideIt ((HV0.out.alloc (.cells #[.bool true, .int .i64 (q : Int), .int .i64 ofrm, .int .i64 onum] 84)).other (p := ⟨w.heap.size + 1 + 1, i * 8 + q, none⟩) (by show w.heap.size + 1 ≠ w.heap.size + 1 + 1; omega) (.int .i64 ((x + 1 : Nat) : Int)))
              have HB' : Hid (Below w.heap.size w ((wr.alloc (.cells #[.bool true, .int .i64 (q : Int), .int .i64 ofrm, .int .i64 onum] 84)).setCell ⟨w.heap.size + 1 + 1, i * 8 + q, none⟩ (.int .i64 ((x + 1 : Nat) : Int)))) := (belA HB.out _).setCell (by show w.heap.size ≤ w.heap.size + 1 + 1; omega) _
              have HC' : Hid (((wr.alloc (.cells #[.bool true, .int .i64 (q : Int), .int .i64 ofrm, .int .i64 onum] 84)).setCell ⟨w.heap.size + 1 + 1, i * 8 + q, none⟩ (.int .i64 ((x + 1 : Nat) : Int))).cell? ⟨w.heap.size, 0, none⟩ = some (.slice (some ⟨g, off, none⟩) s.txs.length ca)) := (World.cell?_setCell_other _ _ _ _ (blkNe (by omega))).trans (cellA hc)
              have hc1 : (wr.alloc (.cells #[.bool true, .int .i64 (q : Int), .int .i64 ofrm, .int .i64 onum] 84)).cell? ⟨wr.heap.size, 1, none⟩ = some (.int .i64 (q : Int)) := by simp
              go_wp2
              generalize (wr.alloc _) = W1 at HN HV0' HB' HC' hat hfz hc1 ⊢
              rw [show ((x + 1 : Nat) : Int) = (x : Int) + 1 by omega] at HN HV0' HB' HC'
              go_region
              go_wp2
              exact ⟨⟨m + 1, by omega, by go_num, HV0'.out.drew, HN.out.drew, HC'.out, HB'.out.drew⟩, by simp [intOf]; omega⟩
        · have HE := hideIt (HV1.out.same fun x y _ _ => (show verM s i m x y = verM s (i + 1) 0 x y by rw [← verM_end, HTx.out]; congr 1; omega))
          go_wp2
          exact ⟨⟨i + 1, by omega, by go_num, HV0.out, HE.out, hc, HB.out⟩, by simp [intOf]; omega⟩
    · have HE := hideIt (HV1.out.same (f' := verF s) fun x y _ _ => by
        unfold verM
        by_cases hx : x < i
        · rw [if_pos hx]
        · have hxn : txI s (x : Int) = ⟨[], false⟩ := by
            unfold txI
            rw [List.getD_eq_getElem?_getD, List.getElem?_eq_none (by omega)]; rfl
          have h0 : verF s x y = 0 := by unfold verF wroI; rw [hxn]; rfl
          rw [if_neg hx, h0]
          by_cases hx2 : x = i
          · rw [if_pos hx2]; simp [wroT]
          · rw [if_neg hx2])
      have HSz : Hid ((Tryd.prog.info? 104).map (·.size) = some (verL (verF s)).length) := by rw [verL_len]; exact size77
      have HSy : Hid ((Tryd.prog.info? 104).map (·.size) = some (verL (verF s)).toArray.size) := by rw [verS]; exact size77
      have HTh : Hid (wr.there (w.heap.size + 1) 0 (verL (verF s)).toArray.size) := by rw [verS]; exact HV0.out.there
      have HO : Hid ((verL (verF s)).toArray.all (·.oneCell') = true) := all_oneCell_toArray (verL_one _)
      have HFin : Hid (VerB (wr.setCells (w.heap.size + 1) 0 (verL (verF s))) (w.heap.size + 1) (verF s)) := HV0.out.store _
      have HBF : Hid (Below w.heap.size w (wr.setCells (w.heap.size + 1) 0 (verL (verF s)))) := HB.out.grown (grown_setCells _ _ 0 _) (by have := HB.out.size; omega) (fun k hk => by cases hk; omega)
      go_wp2_with (first | (refine wpList_load_mid rfl 104 (.tmp 3) rfl (w.heap.size + 1 + 1) 0 rfl (verL (verF s)) _ HE.out.range Tryd.underlying104 rfl HSz.out ?_) | (refine wpList_store_mid rfl 104 (.tmp 2) (.tmp 42) rfl (w.heap.size + 1) 0 (verL (verF s)).toArray rfl rfl HTh.out HSy.out HO.out ?_))
      refine bodyPost_ret (results_one rfl _ _ _ _ rfl HFin.out.load) rfl ?_
      exact ⟨rfl, HBF.out⟩
end Go.Proofs.YtaopigjhdkdklaaDoor

namespace Go.Proofs.YtaopigjhdkdklaaDoor
open Go.RowKit

/-- The first place of a number, -1 if it stands nowhere. -/
def idxN (l : List Int) (x : Int) : Int := if x ∈ l then (l.idxOf x : Int) else -1
theorem idxOf_le' {x : Int} : ∀ {l : List Int} {k : Nat} (hk : k < l.length), l[k] = x → l.idxOf x ≤ k
  | a :: l, 0, _, h => by
    have h : a = x := h
    rw [List.idxOf_cons, h]; simp
  | a :: l, k + 1, hk, h => by
    have := idxOf_le' (l := l) (k := k) (by simpa using hk) h
    rw [List.idxOf_cons]
    cases a == x
    · simp; omega
    · simp
theorem idxN_first {l : List Int} {x : Int} {k : Nat} (hk : k < l.length) (he : l[k] = x) (hn : ∀ j (h : j < l.length), j < k → l[j] ≠ x) : idxN l x = (k : Int) := by
  have hm : x ∈ l := by rw [← he]; exact List.getElem_mem hk
  have h1 := List.idxOf_lt_length_of_mem hm
  have h2 : l[l.idxOf x] = x := List.getElem_idxOf h1
  unfold idxN
  rw [if_pos hm]
  have h3 : ¬ l.idxOf x < k := fun h => hn _ h1 h h2
  have h4 : l.idxOf x ≤ k := idxOf_le' hk he
  omega
theorem idxN_none {l : List Int} {x : Int} (hn : ∀ j (h : j < l.length), l[j] ≠ x) : idxN l x = -1 := by
  unfold idxN
  rw [if_neg]
  intro h
  obtain ⟨j, hj, e⟩ := List.getElem_of_mem h
  exact hn j hj e
theorem idxN_ge {l : List Int} {x : Int} : decide (0 ≤ idxN l x) = decide (x ∈ l) := by
  unfold idxN
  by_cases h : x ∈ l
  · rw [if_pos h]; simp [h]
  · rw [if_neg h]; simp [h]
theorem idxN_lt {l : List Int} {x : Int} : idxN l x < l.length ∧ -1 ≤ idxN l x := by
  unfold idxN
  by_cases h : x ∈ l
  · rw [if_pos h]; have := List.idxOf_lt_length_of_mem h; omega
  · rw [if_neg h]; omega

set_option maxRecDepth 100000 in
set_option maxHeartbeats 1000000 in
theorem sIndex_any (xs : List Int) (hn : xs.length ≤ maxLen) (x : Int) (a : Option Addr) (cap : Nat) (w : World) (h : IntsQ w a xs) :
    Calls Tryd.prog 71 #[.slice a xs.length cap, .int .i64 x] w fun e w' => e = .returned (.int .i64 (idxN xs x)) ∧ w' = w := by
  have HR := hideIt h
  have HF := hideIt (fun k (hk : k < xs.length) => idxN_first (x := x) hk)
  have HN := hideIt (idxN_none (l := xs) (x := x))
  generalize idxN xs x = r at *
  clear h
  unfold maxLen at hn
  go_enter Tryd.func71, Tryd.ntmps71
  go_wp2
  go_loopw [8] (fun v wr => ∃ k : Nat, k ≤ xs.length ∧ v = .int .i64 k ∧ (∀ j (h : j < xs.length), j < k → xs[j] ≠ x) ∧ wr = w) (fun v _ => xs.length - (intOf v).toNat)
  case atStart => exact ⟨0, Nat.zero_le _, rfl, fun j _ hj => absurd hj (by omega), rfl⟩
  case round =>
    obtain ⟨k, hk, rfl, ha, rfl⟩ := hrel
    have HA := hideIt ha
    clear ha
    by_cases hkn : k < xs.length
    · obtain ⟨g, off, rfl, hg, c0⟩ := HR.out.at hkn
      have hkn' : (k : Int) < xs.length := by omega
      by_cases e : xs[k] = x
      · have HE := hideIt (HF.out k hkn e HA.out)
        rw [e] at c0
        clear e
        have he : (x == x) = true := by simp
        go_wp2
        go_ret
        exact ⟨ret_int HE.out.symm, rfl⟩
      · have R1 : Hid (∀ j (h : j < xs.length), j < k + 1 → xs[j] ≠ x) := fun j h hj => by
          by_cases e' : j = k
          · subst e'; exact e
          · exact HA.out j h (by omega)
        generalize xs[k] = y at c0 e
        have he : (x == y) = false := by simp [Ne.symm e]
        clear e
        go_wp2
        go_roundw
        case rel => exact ⟨k + 1, by omega, by go_num, R1.out, trivial⟩
        case measure => simp [intOf]; omega
    · have HE := hideIt (HN.out fun j hj => HA.out j hj (by omega))
      obtain rfl : k = xs.length := by omega
      go_wp2
      go_ret
      exact ⟨ret_int HE.out.symm, rfl⟩
set_option maxRecDepth 100000 in
theorem contains_any (xs : List Int) (hn : xs.length ≤ maxLen) (x : Int) (a : Option Addr) (cap : Nat) (w : World) (h : IntsQ w a xs) :
    Calls Tryd.prog 85 #[.slice a xs.length cap, .int .i64 x] w fun e w' => e = .returned (.bool (decide (x ∈ xs))) ∧ w' = w := by
  have HI := hideIt (sIndex_any xs hn x a cap w h)
  rw [← idxN_ge]
  generalize idxN xs x = r at *
  clear h
  go_enter Tryd.func85, Tryd.ntmps85
  go_wp2_with fail
  refine HI.out.mono ?_
  rintro e w1 ⟨rfl, rfl⟩
  go_wp2
  go_ret
  exact ⟨rfl, rfl⟩
end Go.Proofs.YtaopigjhdkdklaaDoor
