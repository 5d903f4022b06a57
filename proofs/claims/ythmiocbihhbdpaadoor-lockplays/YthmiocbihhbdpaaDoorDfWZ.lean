/-
  Package lock's end: its closure; slices.IndexFunc and slices.DeleteFunc at locks, and free, walked.
  slices.DeleteFunc at locks, and the table's free, walked.
  Package lock's run: one is over, walked.
-/
import Derived.Test.YthmiocbihhbdpaaDoorRnMZ
import Derived.Lib.SliceRun
namespace Go.Proofs.YthmiocbihhbdpaaDoor
open Go.RowKit

def stpO (s : Stp) : Obj := .cells #[.int .i64 s.p, .int .i64 s.k, .int .i64 s.m] 46 (0, 0)
set_option maxHeartbeats 1000000 in
theorem endC_any (t : Int) (s : Stp) (Bc : Nat) (W : World) (hB : W.heap[Bc]? = some (.cells #[.int .i64 t] 3 (0, 0))) :
    Calls Tryd.prog 30 #[.agg #[.int .i64 s.p, .int .i64 s.k, .int .i64 s.m], .pointer (some ⟨Bc, 0, none⟩)] W fun e W' => e = .returned (.bool (s.p == t)) ∧ W' = W.alloc (stpO s) := by
  have c0 : W.cell? ⟨Bc, 0, none⟩ = some (.int .i64 t) := cell_of_row _ _ _ _ 3 _ hB
  have hlt := lt_of_heap hB
  have c1 : (W.alloc (.cells #[.int .i64 s.p, .int .i64 s.k, .int .i64 s.m] 46)).cell? ⟨Bc, 0, none⟩ = some (.int .i64 t) := by
    rw [World.cell?_alloc_lt _ _ _ hlt]
    exact c0
  unfold stpO
  clear hB hlt c0
  go_enter Tryd.func30, Tryd.ntmps30
  go_wp2
  go_ret
  exact ⟨rfl, rfl⟩

/-- The first place of what is of one, -1 if nothing is. -/
def idxS (t : Int) (l : List Stp) : Int := if l.any (fun d => d.p == t) then (l.findIdx (fun d => d.p == t) : Int) else -1
theorem findIdx_leS {f : Stp → Bool} : ∀ {l : List Stp} {k : Nat} (hk : k < l.length), f l[k] = true → l.findIdx f ≤ k
  | a :: l, 0, _, h => by
    have h : f a = true := h
    rw [List.findIdx_cons, h]; simp
  | a :: l, k + 1, hk, h => by
    have := findIdx_leS (f := f) (l := l) (k := k) (by simpa using hk) h
    rw [List.findIdx_cons]
    cases f a
    · simp; omega
    · simp
theorem idxS_first {t : Int} {l : List Stp} {k : Nat} (hk : k < l.length) (he : (l[k].p == t) = true) (hn : ∀ j (h : j < l.length), j < k → (l[j].p == t) = false) : idxS t l = (k : Int) := by
  have ha : l.any (fun d => d.p == t) = true := List.any_eq_true.2 ⟨_, List.getElem_mem hk, he⟩
  unfold idxS
  rw [if_pos ha]
  have h1 : l.findIdx (fun d => d.p == t) < l.length := List.findIdx_lt_length_of_exists ⟨_, List.getElem_mem hk, he⟩
  have h2 : (l[l.findIdx (fun d => d.p == t)].p == t) = true := List.findIdx_getElem (p := fun d : Stp => d.p == t)
  have h3 : ¬ l.findIdx (fun d => d.p == t) < k := fun h => by rw [hn _ h1 h] at h2; cases h2
  have h4 := findIdx_leS (f := fun d => d.p == t) hk he
  omega
theorem idxS_none {t : Int} {l : List Stp} (hn : ∀ j (h : j < l.length), (l[j].p == t) = false) : idxS t l = -1 := by
  unfold idxS
  rw [if_neg]
  intro h
  obtain ⟨x, hx, hp⟩ := List.any_eq_true.1 h
  obtain ⟨j, hj, e⟩ := List.getElem_of_mem hx
  rw [← e, hn j hj] at hp; cases hp

set_option maxRecDepth 100000 in
set_option maxHeartbeats 2000000 in
theorem indexFunc_any (t : Int) (xs : List Stp) (hn : xs.length ≤ 1000) (a : Option Addr) (cap Bc : Nat) (W : World) (h : StpsQ W a xs) (hB : W.heap[Bc]? = some (.cells #[.int .i64 t] 3 (0, 0))) :
    Calls Tryd.prog 41 #[.slice a xs.length cap, .func (.func 30) #[] #[.pointer (some ⟨Bc, 0, none⟩)]] W fun e W' => e = .returned (.int .i64 (idxS t xs)) ∧ W.grownBy W' none := by
  have HR := hideIt h
  have HBc := hideIt hB
  have HF := hideIt (fun k (hk : k < xs.length) => idxS_first (t := t) hk)
  have HN := hideIt (idxS_none (t := t) (l := xs))
  generalize idxS t xs = r at *
  clear h hB
  go_enter Tryd.func41, Tryd.ntmps41
  go_wp2
  go_loopw [8] (fun v wr => ∃ k : Nat, k ≤ xs.length ∧ v = .int .i64 k ∧ (∀ j (h : j < xs.length), j < k → (xs[j].p == t) = false) ∧ W.grownBy wr none) (fun v _ => xs.length - (intOf v).toNat)
  case atStart => exact ⟨0, Nat.zero_le _, rfl, fun j _ hj => absurd hj (by omega), World.grownBy.refl _ _⟩
  case round =>
    obtain ⟨k, hk, rfl, ha, hg⟩ := hrel
    have HA := hideIt ha
    have HG := hideIt hg
    clear ha hg
    by_cases hkn : k < xs.length
    · obtain ⟨gs, os, rfl, hgs, hst⟩ : ∃ g o, a = some ⟨g, o, none⟩ ∧ g < W.heap.size ∧ StpsAt W g o xs := by
        rcases HR.out with e | e
        · rw [e] at hkn; simp at hkn
        · exact e
      have hkn' : (k : Int) < xs.length := by omega
      obtain ⟨s0, s1, s2⟩ : StpAt wr gs (os + k * 3) xs[k] := by
        have hbl := HG.out.block gs hgs (by simp)
        obtain ⟨q0, q1, q2⟩ := hst k hkn
        exact ⟨(World.cell?_of_block (a := ⟨gs, os + k * 3, none⟩) hbl).trans q0, (World.cell?_of_block (a := ⟨gs, os + k * 3 + 1, none⟩) hbl).trans q1, (World.cell?_of_block (a := ⟨gs, os + k * 3 + 2, none⟩) hbl).trans q2⟩
      have HCk := hideIt (endC_any t xs[k] Bc wr ((HG.out.block Bc (lt_of_heap HBc.out) (by simp)).trans HBc.out))
      have HFk := hideIt (fun h => HF.out k hkn h HA.out)
      have HG1 : Hid (W.grownBy (wr.alloc (stpO xs[k])) none) := HG.out.trans (World.grownBy_alloc _ _ none)
      have R1 : Hid ((xs[k].p == t) = false → ∀ j (h : j < xs.length), j < k + 1 → (xs[j].p == t) = false) := fun e j h hj => by
        by_cases e' : j = k
        · subst e'; exact e
        · exact HA.out j h (by omega)
      clear hst HG
      generalize xs[k] = y at *
      go_wp2_with fail
      refine HCk.out.mono ?_
      rintro e w1 ⟨rfl, rfl⟩
      cases hp : (y.p == t)
      · go_wp2
        go_roundw
        case rel => exact ⟨k + 1, by omega, by go_num, R1.out hp, HG1.out⟩
        case measure => simp [intOf]; omega
      · go_wp2
        go_ret
        exact ⟨ret_nt (HFk.out hp).symm, HG1.out⟩
    · have HE := hideIt (HN.out fun j hj => HA.out j hj (by omega))
      obtain rfl : k = xs.length := by omega
      go_wp2
      go_ret
      exact ⟨ret_nt HE.out.symm, HG.out⟩
end Go.Proofs.YthmiocbihhbdpaaDoor

namespace Go.Proofs.YthmiocbihhbdpaaDoor
open Go.RowKit

/-- What the compaction has come to: of the first j those that stay, and behind them what is left. -/
structure DelS (w : World) (g n : Nat) (F : List Stp) (j : Nat) (xs : List Stp) : Prop where
  blk : ∃ cur, w.heap[g]? = some (.cells cur 46 (0, 0)) ∧ cur.size = n * 3
  kept : ∀ t (h : t < F.length), StpAt w g (t * 3) F[t]
  left : ∀ t (h : t < xs.length), j ≤ t → StpAt w g (t * 3) xs[t]
section
variable {w w' : World} {g n : Nat} {F : List Stp} {j : Nat} {xs : List Stp}
theorem DelS.lt (h : DelS w g n F j xs) : g < w.heap.size := by
  obtain ⟨cur, hc, _⟩ := h.blk
  exact lt_of_heap hc
theorem DelS.fz (h : DelS w g n F j xs) (i : Nat) : w.frozen? ⟨g, i, none⟩ = false := by
  obtain ⟨cur, hc, _⟩ := h.blk
  exact frozen_of_row w g i cur 46 hc
theorem DelS.some (h : DelS w g n F j xs) {i : Nat} (hi : i < n * 3) : ∃ v, w.cell? ⟨g, i, none⟩ = some v := by
  obtain ⟨cur, hc, hs⟩ := h.blk
  exact ⟨_, (cell_of_row w g _ cur 46 _ hc).trans (Array.getElem?_eq_getElem (by omega))⟩
theorem StpAt.block {b off : Nat} {s : Stp} (h : StpAt w b off s) (hb : w'.heap[b]? = w.heap[b]?) : StpAt w' b off s :=
  ⟨(World.cell?_of_block (a := ⟨b, off, none⟩) hb).trans h.1, (World.cell?_of_block (a := ⟨b, off + 1, none⟩) hb).trans h.2.1, (World.cell?_of_block (a := ⟨b, off + 2, none⟩) hb).trans h.2.2⟩
theorem DelS.block (h : DelS w g n F j xs) (hb : w'.heap[g]? = w.heap[g]?) : DelS w' g n F j xs := by
  obtain ⟨cur, hc, hs⟩ := h.blk
  exact ⟨⟨cur, hb.trans hc, hs⟩, fun t ht => (h.kept t ht).block hb, fun t ht hj => (h.left t ht hj).block hb⟩
theorem DelS.put (h : DelS w g n F j xs) (hF : F.length ≤ j) (hj : F.length < n) (x : Stp) : DelS (w.setCells g (F.length * 3) [.int .i64 x.p, .int .i64 x.k, .int .i64 x.m]) g n (F ++ [x]) (j + 1) xs := by
  obtain ⟨cur, hc, hs⟩ := h.blk
  obtain ⟨cur', hc', hs'⟩ := heap_setCells [.int .i64 x.p, .int .i64 x.k, .int .i64 x.m] (F.length * 3) w cur hc
  have hin : ∀ i, i < [Value.int .i64 x.p, .int .i64 x.k, .int .i64 x.m].length → (w.cell? ⟨g, F.length * 3 + i, none⟩).isSome = true := fun i hi => by
    obtain ⟨v, hv⟩ := h.some (i := F.length * 3 + i) (by simp at hi; omega)
    rw [hv]; rfl
  have hout : ∀ i, (i < F.length * 3 ∨ F.length * 3 + 3 ≤ i) → (w.setCells g (F.length * 3) [.int .i64 x.p, .int .i64 x.k, .int .i64 x.m]).cell? ⟨g, i, none⟩ = w.cell? ⟨g, i, none⟩ := fun i hi => World.cell?_setCells_out g _ _ _ _ (fun _ _ => by simpa using hi)
  have hat : ∀ i (hi : i < 3), (w.setCells g (F.length * 3) [.int .i64 x.p, .int .i64 x.k, .int .i64 x.m]).cell? ⟨g, F.length * 3 + i, none⟩ = [Value.int .i64 x.p, .int .i64 x.k, .int .i64 x.m][i]? := fun i hi => by
    rw [World.cell?_setCells_in g _ _ _ hin i hi, List.getElem?_eq_getElem hi]
  have hoff : ∀ t, (∀ s, StpAt w g (t * 3) s → (t * 3 + 3 ≤ F.length * 3 ∨ F.length * 3 + 3 ≤ t * 3) → StpAt (w.setCells g (F.length * 3) [.int .i64 x.p, .int .i64 x.k, .int .i64 x.m]) g (t * 3) s) := fun t s hs ht =>
    ⟨(hout _ (by omega)).trans hs.1, (hout _ (by omega)).trans hs.2.1, (hout _ (by omega)).trans hs.2.2⟩
  refine ⟨⟨cur', hc', by omega⟩, fun t ht => ?_, fun t ht hjt => ?_⟩
  · by_cases e : t = F.length
    · subst e
      rw [List.getElem_append_right (Nat.le_refl _)]
      simp only [Nat.sub_self, List.getElem_cons_zero]
      exact ⟨hat 0 (by omega), hat 1 (by omega), hat 2 (by omega)⟩
    · have ht' : t < F.length := by simp at ht; omega
      rw [List.getElem_append_left ht']
      exact hoff t _ (h.kept t ht') (by omega)
  · exact hoff t _ (h.left t ht (by omega)) (by omega)
end
/-- Steps that lie at the front of a block are a row of one's own. -/
theorem owns_del {w : World} {base g cap : Nat} {F : List Stp} {cur : Array Value} (hb : base ≤ g) (hc : w.heap[g]? = some (.cells cur 46 (0, 0))) (hs : cur.size = cap * 3) (hm : cap ≤ maxLen) (hF : F.length ≤ cap) (hk : ∀ t (h : t < F.length), StpAt w g (t * 3) F[t]) :
    w.ownsRow base 46 3 (.slice (some ⟨g, 0, none⟩) F.length cap) F.length (stpC F) := by
  refine ⟨by rw [stpC_len], .inr ⟨g, cap, cur, rfl, hb, hc, hF, hm, hs, List.ext_getElem? fun i => ?_⟩⟩
  by_cases hi : i < F.length * 3
  · rw [List.getElem?_take_of_lt hi, Array.getElem?_toList]
    have hq : i / 3 < F.length := by omega
    have e := stpC_at F (i / 3) (i % 3) hq (by omega)
    rw [show i / 3 * 3 + i % 3 = i by omega] at e
    rw [e]
    obtain ⟨h0, h1, h2⟩ := hk (i / 3) hq
    rw [cell_of_row _ _ _ _ 46 _ hc] at h0 h1 h2
    have h3 : i % 3 = 0 ∨ i % 3 = 1 ∨ i % 3 = 2 := by omega
    rcases h3 with h3 | h3 | h3
    · have e3 : i / 3 * 3 = i := by omega
      rw [e3] at h0
      rw [h3, h0]; rfl
    · have e3 : i / 3 * 3 + 1 = i := by omega
      rw [e3] at h1
      rw [h3, h1]; rfl
    · have e3 : i / 3 * 3 + 2 = i := by omega
      rw [e3] at h2
      rw [h3, h2]; rfl
  · rw [List.getElem?_eq_none (by rw [List.length_take]; omega), List.getElem?_eq_none (by rw [stpC_len]; omega)]

theorem zero3 (n : Nat) (z : Value) : (Builtin.zeroCells #[z, z, z] n).toList = List.replicate (n * 3) z := by
  simp [Builtin.zeroCells]
  apply List.ext_getElem
  · simp
  · intro i h1 h2
    have h3 : i % 3 = 0 ∨ i % 3 = 1 ∨ i % 3 = 2 := by omega
    rcases h3 with h3 | h3 | h3 <;> simp [h3]
theorem run_clear3 (w : World) (ty : TypeId) (b o n c : Nat) (hn : 0 < n) (hc : ∀ j, j < n * 3 → (w.cell? ⟨b, o + j, none⟩).isSome = true) (hf : ∀ j, j < n * 3 → w.frozen? ⟨b, o + j, none⟩ = false) :
    (Builtin.clear_ #[26] ty #[.slice (some ⟨b, o, none⟩) n c]).run Tryd.prog w = .ok (.tuple #[]) (w.setCells b o (List.replicate (n * 3) (.int .i64 0))) := by
  have hst := run_storeCells_cells (P := Tryd.prog) b o (List.replicate (n * 3) (.int .i64 0)) 0 w (by simpa using hc) (by simpa using hf) (by intro v hv'; rw [List.eq_of_mem_replicate hv']; rfl)
  simp only [Nat.add_zero] at hst
  have hz := zero3 n (.int .i64 0)
  have hv : (zeroValue 46).run Tryd.prog w = .ok (.agg #[.int .i64 0, .int .i64 0, .int .i64 0]) w := Tryd.zeroValue46 w
  have hcs : (Value.agg #[.int .i64 0, .int .i64 0, .int .i64 0]).cells = #[.int .i64 0, .int .i64 0, .int .i64 0] := rfl
  obtain ⟨m, rfl⟩ : ∃ m, n = m + 1 := ⟨n - 1, by omega⟩
  simp [Builtin.clear_, run_underlying Tryd.underlying26, hv, hcs, hz, hst]

def DgTold (base : Nat) (v : Value) (F : List Stp) (W : World) (e : Ending) (W' : World) : Prop := ∃ v', e = .returned v' ∧ W'.ownsRow base 46 3 v' F.length (stpC F) ∧ W.grownBy W' v.ownBlock ∧ v'.ownBlock = v.ownBlock

set_option maxRecDepth 100000 in
set_option maxHeartbeats 4000000 in
theorem deleteFunc_any (t : Int) (xs : List Stp) (hn : xs.length ≤ 1000) (base : Nat) (v : Value) (Bc : Nat) (W : World) (h : W.ownsRow base 46 3 v xs.length (stpC xs)) (hB : W.heap[Bc]? = some (.cells #[.int .i64 t] 3 (0, 0))) :
    Calls Tryd.prog 34 #[v, .func (.func 30) #[] #[.pointer (some ⟨Bc, 0, none⟩)]] W fun e W' => DgTold base v (xs.filter fun d => !(d.p == t)) W e W' := by
  obtain ⟨a, cap, rfl, hcap, hi⟩ := stpsQ_ownH h
  have HI := hideIt (indexFunc_any t xs hn a cap Bc W hi hB)
  have HRw := hideIt h
  have HBc := hideIt hB
  unfold DgTold
  clear h hB
  go_enter Tryd.func34, Tryd.ntmps34
  go_wp2_with fail
  refine HI.out.mono ?_
  rintro e W1 ⟨rfl, hg1⟩
  have HG1 := hideIt hg1
  clear HI hg1
  by_cases hany : xs.any (fun d => d.p == t) = true
  · obtain ⟨x0, hx0, hp0⟩ := List.any_eq_true.1 hany
    have hi1 : xs.findIdx (fun d => d.p == t) < xs.length := List.findIdx_lt_length_of_exists ⟨x0, hx0, hp0⟩
    have hi2 : (xs[xs.findIdx (fun d => d.p == t)].p == t) = true := List.findIdx_getElem (p := fun d : Stp => d.p == t)
    have hix : idxS t xs = (xs.findIdx (fun d => d.p == t) : Int) := by unfold idxS; rw [if_pos hany]
    have hi3 : ∀ j (h : j < xs.length), j < xs.findIdx (fun d => d.p == t) → (xs[j].p == t) = false := fun j hj hlt => by
      cases hc : (xs[j].p == t)
      · rfl
      · have := findIdx_leS (f := fun d => d.p == t) hj hc; omega
    rw [hix]
    clear hix hx0 hp0 hany
    generalize xs.findIdx (fun d => d.p == t) = i0 at *
    have hf0 : (xs.take (i0 + 1)).filter (fun x => !(x.p == t)) = xs.take i0 := by
      rw [List.take_add_one, List.getElem?_eq_getElem hi1, List.filter_append]
      have h1 : (xs.take i0).filter (fun x => !(x.p == t)) = xs.take i0 := List.filter_eq_self.2 fun x hx => by
        obtain ⟨j, hj, e⟩ := List.getElem_of_mem hx
        rw [List.length_take] at hj
        rw [← e, List.getElem_take, hi3 j (by omega) (by omega)]; rfl
      rw [h1]
      simp [hi2]
    have HF0 := hideIt hf0
    have hne : ((i0 : Int) == -1) = false := by rw [beq_eq_false_iff_ne]; omega
    clear hf0
    have HLt : Hid (∀ j, i0 < j → j ≤ xs.length → ((xs.take j).filter (fun x => !(x.p == t))).length < j) := fun j h1 h2 => by
      have hl : (xs.take j).length = j := by rw [List.length_take]; omega
      have : ((xs.take j).filter (fun x => !(x.p == t))).length < (xs.take j).length := List.length_filter_lt_length_iff_exists.2 ⟨xs[i0], List.mem_take_iff_getElem.2 ⟨i0, by omega, rfl⟩, by simp [hi2]⟩
      omega
    have HSu : Hid (∀ j (h : j < xs.length), (xs.take (j + 1)).filter (fun x => !(x.p == t)) = (xs.take j).filter (fun x => !(x.p == t)) ++ if (xs[j].p == t) = true then [] else [xs[j]]) := fun j h => by
      rw [List.take_add_one, List.getElem?_eq_getElem h, List.filter_append]
      cases hc : (xs[j].p == t) <;> simp [hc]
    have HAll : Hid ((xs.take xs.length).filter (fun x => !(x.p == t)) = xs.filter fun x => !(x.p == t)) := by rw [List.take_length]; rfl
    obtain ⟨hl0, ⟨e1, e2⟩ | ⟨g, cap', cur, e1, hbg, hh, h1, h2, h3, h4⟩⟩ := HRw.out
    · rw [e2] at hi1; omega
    injection e1 with e1 _ e3
    subst e1 e3
    have hgl := lt_of_heap hh
    have HD0 : Hid (DelS W1 g cap ((xs.take (i0 + 1)).filter (fun x => !(x.p == t))) (i0 + 1) xs) := by
      rw [HF0.out]
      have hst : StpsAt W g 0 xs := by
        rcases hi with e | ⟨b, off, e, _, hst⟩
        · rw [e] at hi1; simp at hi1
        · injection e with e; injection e with e1 e2; subst e1 e2; exact hst
      have hD : DelS W g cap (xs.take i0) (i0 + 1) xs := by
        refine ⟨⟨cur, hh, by omega⟩, fun t ht => ?_, fun t ht _ => ?_⟩
        · rw [List.getElem_take]
          rw [List.length_take] at ht
          have := hst t (by omega)
          rwa [Nat.zero_add] at this
        · have := hst t ht
          rwa [Nat.zero_add] at this
      exact hD.block (HG1.out.block g hgl (by simp))
    have HL0 : Hid (((xs.take (i0 + 1)).filter (fun x => !(x.p == t))).length = i0) := by
      rw [HF0.out, List.length_take]
      show min i0 xs.length = i0
      omega
    have HGg : Hid (W.grownBy W1 (some g)) := HG1.out.but _
    have hBg : Bc ≠ g := fun e => by
      have := HBc.out
      rw [e, hh] at this
      injection this with this
      injection this with _ this
      exact absurd this (by decide)
    clear HRw hi hi3 hi2 HF0 hh HG1 hl0
    have hcm : cap ≤ 9223372036854775807 := by unfold maxLen at h2; omega
    go_wp2
    go_loopw [5, 6] (fun i j wr => ∃ m : Nat, i0 < m ∧ m ≤ xs.length ∧ j = .int .i64 m ∧ i = .int .i64 (((xs.take m).filter (fun x => !(x.p == t))).length : Nat) ∧ DelS wr g cap ((xs.take m).filter (fun x => !(x.p == t))) m xs ∧ W.grownBy wr (some g)) (fun _ j _ => xs.length - (intOf j).toNat)
    case atStart => exact ⟨i0 + 1, by omega, by omega, by go_num, by rw [HL0.out], HD0.out, HGg.out⟩
    case round =>
      clear HD0 HL0 HGg
      obtain ⟨m, hm0, hm, rfl, rfl, hD, hg⟩ := hrel
      have HD := hideIt hD
      have HG := hideIt hg
      have hlm := HLt.out m hm0 hm
      clear hD hg
      by_cases hml : m < xs.length
      · have hml' : (m : Int) < xs.length := by omega
        obtain ⟨c0, c1, c2⟩ := HD.out.left m hml (Nat.le_refl _)
        have hgw := HD.out.lt
        have hx1 : ¬ g = wr.heap.size := by omega
        have hx2 : ¬ wr.heap.size = g := by omega
        have HS1 := hideIt (HSu.out m hml)
        generalize xs[m] = y at *
        have HC := hideIt (endC_any t y Bc (wr.alloc (stpO y)) (by
          rw [Below.heap_alloc _ _ _ (Nat.lt_of_lt_of_le (lt_of_heap HBc.out) HG.out.size)]
          exact (HG.out.block Bc (lt_of_heap HBc.out) (someNe hBg)).trans HBc.out))
        unfold stpO at HC
        generalize hFm : (xs.take m).filter (fun x => !(x.p == t)) = F at *
        have HD2 : Hid (DelS ((wr.alloc (stpO y)).alloc (stpO y)) g cap F m xs) := HD.out.block ((Below.heap_alloc _ _ _ (by simp; omega)).trans (Below.heap_alloc _ _ _ hgw))
        have HG2 : Hid (W.grownBy ((wr.alloc (stpO y)).alloc (stpO y)) (some g)) := (HG.out.trans (World.grownBy_alloc _ _ _)).trans (World.grownBy_alloc _ _ _)
        have hnw : StpAt ((wr.alloc (stpO y)).alloc (stpO y)) wr.heap.size 0 y := by
          have e := (Below.heap_alloc (wr.alloc (stpO y)) (stpO y) wr.heap.size (by simp)).trans (heap_alloc_new wr (stpO y))
          unfold stpO at e ⊢
          exact ⟨cell_of_row _ _ _ _ 46 (0, 0) e, cell_of_row _ _ _ _ 46 (0, 0) e, cell_of_row _ _ _ _ 46 (0, 0) e⟩
        unfold stpO at HD2 HG2 hnw
        go_wp2_with fail
        refine HC.out.mono ?_
        rintro e w2 ⟨rfl, rfl⟩
        clear HC
        generalize (wr.alloc (.cells #[.int .i64 y.p, .int .i64 y.k, .int .i64 y.m] 46)).alloc (.cells #[.int .i64 y.p, .int .i64 y.k, .int .i64 y.m] 46) = w2 at HD2 HG2 hnw ⊢
        obtain ⟨n0, n1, n2⟩ := hnw
        clear c0 c1 c2 HD HG
        cases hp : (y.p == t)
        · rw [hp] at HS1
          obtain ⟨o0, ho0⟩ := HD2.out.some (i := F.length * 3) (by omega)
          obtain ⟨o1, ho1⟩ := HD2.out.some (i := F.length * 3 + 1) (by omega)
          obtain ⟨o2, ho2⟩ := HD2.out.some (i := F.length * 3 + 2) (by omega)
          have hf0 := HD2.out.fz (F.length * 3)
          have hf1 := HD2.out.fz (F.length * 3 + 1)
          have hf2 := HD2.out.fz (F.length * 3 + 2)
          have HD3 := hideIt (HD2.out.put (by omega) (by omega) y)
          have HG3 : Hid (W.grownBy (w2.setCells g (F.length * 3) [.int .i64 y.p, .int .i64 y.k, .int .i64 y.m]) (some g)) := HG2.out.trans (grown_setCells _ _ _ _)
          have hlF : (F.length : Int) < xs.length := by omega
          clear HD2 HG2
          go_wp2
          go_roundw
          case rel => exact ⟨m + 1, by omega, by omega, by go_num, by rw [HS1.out]; simp, by rw [HS1.out]; exact HD3.out, HG3.out⟩
          case measure => simp [intOf]; omega
        · rw [hp] at HS1
          have HD3 : Hid (DelS w2 g cap F (m + 1) xs) := ⟨HD2.out.blk, HD2.out.kept, fun t ht h => HD2.out.left t ht (by omega)⟩
          go_wp2
          go_roundw
          case rel => exact ⟨m + 1, by omega, by omega, by go_num, by rw [HS1.out]; simp, by rw [HS1.out]; simpa using HD3.out, HG2.out⟩
          case measure => simp [intOf]; omega
      · obtain rfl : m = xs.length := by omega
        rw [HAll.out] at HD hlm ⊢
        generalize hFm : xs.filter (fun x => !(x.p == t)) = F at *
        have n1 : ¬ cap = F.length := by omega
        have n2 : ¬ F.length = cap := by omega
        have hcl := run_clear3 wr 0 g (F.length * 3) (xs.length - F.length) (cap - F.length) (by omega)
          (fun j hj => by obtain ⟨v, hv⟩ := HD.out.some (i := F.length * 3 + j) (by omega); rw [hv]; rfl) (fun j _ => HD.out.fz _)
        go_wp2
        go_ret
        obtain ⟨cur2, hc2, hs2⟩ := HD.out.blk
        obtain ⟨cur3, hc3, hs3⟩ := heap_setCells (List.replicate ((xs.length - F.length) * 3) (.int .i64 0)) (F.length * 3) wr _ hc2
        refine ⟨_, rfl, ?_, HG.out.trans (grown_setCells _ _ _ _), rfl⟩
        rw [hFm]
        refine owns_del hbg hc3 ?_ (by unfold maxLen; omega) (by omega) fun i hi => ?_
        · have : cur3.size = cur2.size := by simpa using hs3
          omega
        · have hout : ∀ z, z < F.length * 3 → (wr.setCells g (F.length * 3) (List.replicate ((xs.length - F.length) * 3) (.int .i64 0))).cell? ⟨g, z, none⟩ = wr.cell? ⟨g, z, none⟩ := fun z hz => World.cell?_setCells_out _ _ _ _ _ (fun _ _ => .inl hz)
          obtain ⟨q0, q1, q2⟩ := HD.out.kept i hi
          exact ⟨(hout _ (by omega)).trans q0, (hout _ (by omega)).trans q1, (hout _ (by omega)).trans q2⟩
  · have hx : idxS t xs = -1 := by unfold idxS; rw [if_neg hany]
    have HFl : Hid (xs.filter (fun x => !(x.p == t)) = xs) := List.filter_eq_self.2 fun x hx => by
      cases hp : (x.p == t)
      · rfl
      · exact absurd (List.any_eq_true.2 ⟨x, hx, hp⟩) hany
    rw [hx]
    clear hany hx
    go_wp2
    go_ret
    refine ⟨_, rfl, ?_, HG1.out.but _, rfl⟩
    rw [HFl.out]
    exact ownsRow_same HRw.out fun b hb => HG1.out.block b (ownsRow_block HRw.out b hb).2.1 (by simp)
end Go.Proofs.YthmiocbihhbdpaaDoor

namespace Go.Proofs.YthmiocbihhbdpaaDoor
open Go.RowKit

theorem step_delete_run {P : Program} {ops : Array Oper} {o : Oper} {a : Act} {w : World} {K : Act → World → Prop} {Q : Exit → Act → World → Prop} {E : Prop} (hgd : o.guard = none) (s x : Operand) (t k : TypeId)
    (ho : o.op = .call { callee := .builtin .delete, args := #[s, x], argTypes := #[t, k] }) (v xv v' : Value) (w' : World) (hs : a.eval s = v) (hx : a.eval x = xv) (hr : (Builtin.delete_ #[t, k] o.type #[v, xv]).run P w = .ok v' w')
    (hK : K (a.put o.dst v') w') : if Region.wanted o (yielded ops a.tmps) = true then Oper.wp P o a w K Q else E := by
  have hw : Region.wanted o (yielded ops a.tmps) = true := by simp [Region.wanted, hgd]
  rw [if_pos hw]
  unfold Oper.wp execOp
  simp only [ho, resolve, invoke, builtin, Sem.run_bind, Sem.run_pure, Result.andThen_ok, List.map_toArray, List.map_cons, List.map_nil, hs, hx, hr]
  exact hK
theorem wpList_delete_run {P : Program} (w : World) {ops : Array Oper} {rest : List Oper} {o : Oper} {a : Act} {Q : Exit → Act → World → Prop} (hgd : o.guard = none) (s x : Operand) (t k : TypeId)
    (ho : o.op = .call { callee := .builtin .delete, args := #[s, x], argTypes := #[t, k] }) (v xv v' : Value) (w' : World) (hs : a.eval s = v) (hx : a.eval x = xv) (hr : (Builtin.delete_ #[t, k] o.type #[v, xv]).run P w = .ok v' w')
    (hK : wpList P ops Q rest (a.put o.dst v') w') : wpList P ops Q (o :: rest) a w := by
  refine wpList_plain hgd fun K' hK' => ?_
  unfold Oper.wp execOp
  simp only [ho, resolve, invoke, builtin, Sem.run_bind, Sem.run_pure, Result.andThen_ok, List.map_toArray, List.map_cons, List.map_nil, hs, hx, hr]
  exact hK' _ _ hK

section
variable {w0 W : World} {n : Nat} {p : List (List Stp)} {k : RunB} {hl dn : List Stp} {ov : Nat → Bool} {pos : Nat → Nat} {q : Nat} {g : Nat → Nat} {cnt : Nat → Nat} {vic : List Nat} {vh vd vv : Value}

set_option maxRecDepth 100000 in
set_option maxHeartbeats 4000000 in
theorem free_any (h : RunM w0 n p k W hl dn ov pos q g cnt vic vh vd vv) (hl0 : hl.length ≤ 500) (t : Int) (Bc : Nat) (hB : W.heap[Bc]? = some (.cells #[.int .i64 t] 3 (0, 0))) :
    Calls Tryd.prog 29 #[.pointer (some ⟨k.B, 0, none⟩), .func (.func 30) #[] #[.pointer (some ⟨Bc, 0, none⟩)]] W fun e W' => e = .returned (.tuple #[]) ∧ (∃ vh', RunM w0 n p k W' (hl.filter fun d => !(d.p == t)) dn ov pos q g cnt vic vh' vd vv) ∧ ∀ b, b < W.heap.size → b ≠ k.B → vh.ownBlock ≠ some b → W'.heap[b]? = W.heap[b]? := by
  have HD := hideIt (deleteFunc_any t hl (by omega) w0.heap.size vh Bc W h.held hB)
  have c0 := h.cells.1
  have HP : Hid (∀ v' W', W'.ownsRow w0.heap.size 46 3 v' (hl.filter fun d => !(d.p == t)).length (stpC (hl.filter fun d => !(d.p == t))) → W.grownBy W' vh.ownBlock → v'.ownBlock = vh.ownBlock → W'.cell? ⟨k.B, 0, none⟩ = some vh ∧ W'.frozen? ⟨k.B, 0, none⟩ = false ∧ RunM w0 n p k (W'.setCell ⟨k.B, 0, none⟩ v') (hl.filter fun d => !(d.p == t)) dn ov pos q g cnt vic v' vd vv) := fun v' W' ho hg hv => by
    obtain ⟨t1, _⟩ := h.tags
    have hB : W'.heap[k.B]? = _ := (hg.block _ h.lt fun e => ne_tag (own_tag h.held e.symm) t1 (by decide) rfl).trans h.blk
    unfold runO at hB
    exact ⟨by rw [cell_of_row _ _ _ _ 66 _ hB]; rfl, frozen_of_row _ _ _ _ 66 hB, h.putH ho hg (.inl hv)⟩
  obtain ⟨va, vc, rfl⟩ := ownsRow_slice h.held
  unfold DgTold at HD
  clear h hB
  go_enter Tryd.func29, Tryd.ntmps29
  go_wp2_with fail
  refine HD.out.mono ?_
  rintro e W1 ⟨v', rfl, ho, hg, hv⟩
  obtain ⟨d0, d1, hr⟩ := HP.out v' W1 ho hg hv
  have HR := hideIt hr
  obtain ⟨va', vc', rfl⟩ := ownsRow_slice ho
  have HK := hideIt (fun b (hb : b < W.heap.size) (h1 : b ≠ k.B) (h2 : (Value.slice va hl.length vc).ownBlock ≠ some b) => grown_run (B := k.B) (i := 0) (v := .slice va' (List.filter (fun d => !(d.p == t)) hl).length vc') hg rfl b hb h1 (fun e => h2 e.symm))
  clear HP HD ho hg hv hr
  go_wp2
  go_end0
  exact ⟨rfl, ⟨_, HR.out⟩, HK.out⟩

/-- What the end of one appends. -/
theorem done_step (h : RunM w0 n p k W hl dn ov pos q g cnt vic vh vd vv) (hl0 : dn.length ≤ 500) (s : Stp) :
    ∃ va vc va' vc' W1, vd = .slice va dn.length vc ∧ (Builtin.append_ #[26, 26] 26 #[.slice va dn.length vc, .slice (some ⟨W.heap.size, 0, none⟩) 1 1]).run Tryd.prog ((W.alloc (.cells #[.int .i64 s.p, .int .i64 s.k, .int .i64 s.m] 46)).drew) = .ok (.slice va' (dn.length + 1) vc') W1 ∧
      RunM w0 n p k (W1.setCell ⟨k.B, 4, none⟩ (.slice va' (dn.length + 1) vc')) hl (dn ++ [s]) ov pos q g cnt vic vh (.slice va' (dn.length + 1) vc') vv ∧ W1.cell? ⟨k.B, 4, none⟩ = some (.slice va dn.length vc) ∧ W1.frozen? ⟨k.B, 4, none⟩ = false := by
  have hh := h.below (belA (Below.refl _ _) (.cells #[.int .i64 s.p, .int .i64 s.k, .int .i64 s.m] 46)).drew
  have hnew := heap_alloc_new W (.cells #[.int .i64 s.p, .int .i64 s.k, .int .i64 s.m] 46)
  generalize hZ : (W.alloc (.cells #[.int .i64 s.p, .int .i64 s.k, .int .i64 s.m] 46)) = Z at hh hnew ⊢
  have hsz : Z.drew.heap.size = W.heap.size + 1 := by rw [← hZ]; simp [World.drew]
  have hnew' : Z.drew.heap[W.heap.size]? = some (.cells #[.int .i64 s.p, .int .i64 s.k, .int .i64 s.m] 46 (0, 0)) := hnew
  have hSA : StpAt Z.drew W.heap.size 0 s := ⟨cell_of_row _ _ _ _ 46 (0, 0) hnew', cell_of_row _ _ _ _ 46 (0, 0) hnew', cell_of_row _ _ _ _ 46 (0, 0) hnew'⟩
  have hs0 := h.size
  obtain ⟨va, vc, rfl⟩ := ownsRow_slice h.done
  obtain ⟨v', W1, hr, ho, hg, hv⟩ := run_appH hh.done hSA (by omega) (by omega) 26
  obtain ⟨va', vc', rfl⟩ := ownsRow_slice ho
  obtain ⟨t1, _⟩ := hh.tags
  have hB : W1.heap[k.B]? = _ := (hg.block _ hh.lt fun e => ne_tag (own_tag hh.done e.symm) t1 (by decide) rfl).trans hh.blk
  unfold runO at hB
  refine ⟨va, vc, va', vc', W1, rfl, hr, hh.putD ho hg hv, ?_, frozen_of_row _ _ _ _ 66 hB⟩
  rw [cell_of_row _ _ _ _ 66 _ hB]
  rfl

set_option maxRecDepth 100000 in
set_option maxHeartbeats 4000000 in
theorem endP_any (h : RunM w0 n p k W hl dn ov pos q g cnt vic vh vd vv) (hn : n ≤ 8) (hl0 : hl.length ≤ 500) (hd0 : dn.length ≤ 500) (t : Nat) (ht : t < n) (kd : Int) :
    Calls Tryd.prog 23 #[.pointer (some ⟨k.B, 0, none⟩), .int .i64 (t : Int), .int .i64 kd] W fun e W' => e = .returned (.tuple #[]) ∧ ∃ vh' vd', RunM w0 n p k W' (hl.filter fun d => !(d.p == (t : Int))) (dn ++ [⟨(t : Int), kd, 0⟩]) (upd ov t true) pos q (upd g t 0) cnt vic vh' vd' vv := by
  have hbx := heap_alloc_new W (.cells #[.int .i64 (t : Int)] 3)
  have H0 := hideIt (h.below (belA (Below.refl _ _) (.cells #[.int .i64 (t : Int)] 3)))
  have hsz := h.size
  have hC := h.cnt.lt
  have hvv := fun b hb => (ownsRow_block h.vic b hb).2.1
  have hbl := h.lt
  clear h
  go_enter Tryd.func23, Tryd.ntmps23
  go_upto_region 1 with fail
  generalize W.alloc (.cells #[.int .i64 (t : Int)] 3) = W1 at H0 hbx ⊢
  generalize W.heap.size = Bc at *
  have hbl1 := lt_of_heap hbx
  obtain ⟨_, _, c2, c3, c4, _, _⟩ := H0.out.cells
  have e0 : W1.cell? ⟨Bc, 0, none⟩ = some (.int .i64 (t : Int)) := cell_of_row _ _ _ _ 3 _ hbx
  have o0 := H0.out.over.bit t ht
  have o1 := H0.out.over.fz t
  have H1 := hideIt (H0.out.putO ht true)
  have hbx1 : (W1.setCell ⟨k.O, t, none⟩ (.bool true)).drew.heap[Bc]? = some (.cells #[.int .i64 (t : Int)] 3 (0, 0)) := by
    refine (Below.heap_setCell W1 ⟨k.O, t, none⟩ _ Bc fun e => ?_).trans hbx
    obtain ⟨_, _, t3, _⟩ := H0.out.tags
    have e : Bc = k.O := e
    rw [← e, hbx] at t3
    exact absurd t3 (fun h => by cases h)
  replace H1 := hideIt (H1.out.below (Below.refl _ _).drew)
  go_region
  go_upto_region 2 with fail
  clear c2 c3 c4 e0 o0 o1 H0 hbx
  generalize (W1.setCell ⟨k.O, t, none⟩ (.bool true)).drew = W2 at H1 hbx1 ⊢
  obtain ⟨_, _, c2, c3, c4, _, _⟩ := H1.out.cells
  have e0 : W2.cell? ⟨Bc, 0, none⟩ = some (.int .i64 (t : Int)) := cell_of_row _ _ _ _ 3 _ hbx1
  obtain ⟨W3, hr3, hm3, hg3⟩ := (H1.out.below (Below.refl _ _).drew).map.drop hn ht 0
  have HR3 := hideIt hr3
  have H3 := hideIt ((H1.out.below (Below.refl _ _).drew).putM hm3 hg3)
  have hbx3 : W3.heap[Bc]? = some (.cells #[.int .i64 (t : Int)] 3 (0, 0)) := by
    refine (hg3.block Bc (lt_of_heap hbx1) fun e => ?_).trans hbx1
    injection e with e
    obtain ⟨_, _, _, t4, _⟩ := H1.out.tags
    rw [← e, hbx1] at t4
    exact absurd t4 (fun h => by cases h)
  clear hr3 hm3 hg3
  go_region_law (refine step_delete_run (by rfl) _ _ 64 3 (by rfl) _ _ _ W3 (by rfl) (by rfl) HR3.out ?_)
  all_goals
    clear c2 c3 c4 e0 H1 hbx1 HR3
    have HF := hideIt (free_any H3.out hl0 (t : Int) Bc hbx3)
    have HBo : Hid (∀ W4 : World, (∀ b, b < W3.heap.size → b ≠ k.B → vh.ownBlock ≠ some b → W4.heap[b]? = W3.heap[b]?) → W4.heap[Bc]? = some (.cells #[.int .i64 (t : Int)] 3 (0, 0))) := fun W4 hk => by
      refine (hk Bc (lt_of_heap hbx3) (fun e => ?_) (fun e => ?_)).trans hbx3
      · obtain ⟨t1, _⟩ := H3.out.tags
        rw [← e, hbx3] at t1
        exact absurd t1 (fun h => by cases h)
      · have t1 := own_tag H3.out.held e
        rw [hbx3] at t1
        exact absurd t1 (fun h => by cases h)
    clear H3 hbx3
    go_wp2_with fail
    refine HF.out.mono ?_
    rintro e W4 ⟨rfl, ⟨vh', h4⟩, hk4⟩
    have hbx4 := HBo.out W4 hk4
    clear HF hk4 HBo
    obtain ⟨va, vc, va', vc', W5, rfl, hr5, h5, d0, d1⟩ := done_step h4 hd0 ⟨(t : Int), kd, 0⟩
    have e0 : W4.cell? ⟨Bc, 0, none⟩ = some (.int .i64 (t : Int)) := cell_of_row _ _ _ _ 3 _ hbx4
    have c4 := h4.cells.2.2.2.2.1
    have hlt4 := h4.lt
    have hx1 : ¬ k.B = W4.heap.size := by omega
    have hx2 : ¬ W4.heap.size = k.B := by omega
    have hbl4 := lt_of_heap hbx4
    have hx3 : ¬ Bc = W4.heap.size := by omega
    have hx4 : ¬ W4.heap.size = Bc := by omega
    have HR5 := hideIt hr5
    have H5 := hideIt h5
    clear h4 hr5 h5 hbx4
    go_upto_region 4 with fail
    go_region_law (refine step_append_run (by rfl) _ _ 26 (by rfl) _ _ _ W5 (by rfl) (by rfl) HR5.out ?_)
    all_goals go_wp2
    all_goals go_end0
    all_goals exact ⟨rfl, _, _, H5.out⟩
end
end Go.Proofs.YthmiocbihhbdpaaDoor
