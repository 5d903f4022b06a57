/-
  The program's viewOf, walked: what is seen of steps that are done in the order of some numbers.
  The program's mixed, apart, same; slices.Contains: walked.
-/
import Derived.Test.YtibdchahallbjabDoorMapVZ
import Derived.Test.YtibdchahallbjabDoorSrPZ
import Derived.Test.YtibdchahallbjabDoorCyWZ
import Derived.Test.YtibdchahallbjabDoorCsW
import Derived.Test.YtibdchahallbjabDoorGcW
namespace Go.Proofs.YtibdchahallbjabDoor
open Go.RowKit

/-- As maps from ints: who is last; what is read. -/
def lsF (d : List Stp) (ns : List Nat) (key : Int) : Option Int := (lsV d key ns).map fun x : Nat => (x : Int)
def rdF (d : List Stp) (ns : List Nat) (j : Nat) (q : Int) : Option Int := if 0 ≤ q then (rdV d ns j q.toNat).map fun x : Nat => (x : Int) else none
theorem lsF_put {d : List Stp} {ns : List Nat} {n : Nat} (h : (stZ d n).k = 2) : lsF d (ns ++ [n]) = putK (lsF d ns) (stZ d n).m (some (n : Int)) := by
  funext key
  unfold lsF putK
  rw [lsV_app]
  by_cases e : key = (stZ d n).m
  · subst e
    rw [if_pos rfl, if_pos (by unfold wB; simp [h])]; rfl
  · rw [if_neg e, if_neg (by unfold wB; simp; intro _ h2; exact e h2.symm)]
theorem lsF_same {d : List Stp} {ns : List Nat} {n : Nat} (h : (stZ d n).k ≠ 2) : lsF d (ns ++ [n]) = lsF d ns := by
  funext key
  unfold lsF
  rw [lsV_app, if_neg (by unfold wB; simp [h])]
theorem rdF_at {d : List Stp} {ns : List Nat} {j : Nat} (hj : j < ns.length) (h : (stZ d ns[j]).k ≠ 2) {w : Int} (hw : lsF d (ns.take j) (stZ d ns[j]).m = some w) : rdF d ns (j + 1) = putK (rdF d ns j) (ns[j] : Int) (some w) := by
  funext q
  unfold rdF putK
  by_cases e : q = (ns[j] : Int)
  · subst e
    rw [if_pos (by omega), if_pos rfl, Int.toNat_natCast]
    unfold rdV
    rw [if_pos ⟨(List.getElem_eq_getD (h := hj) 0).symm, h⟩]
    exact hw
  · rw [if_neg e]
    by_cases h0 : 0 ≤ q
    · simp only [if_pos h0]
      have : rdV d ns (j + 1) q.toNat = rdV d ns j q.toNat := by
        rw [rdV, if_neg fun c => ?_]
        have c1 := c.1
        rw [← List.getElem_eq_getD (h := hj)] at c1
        exact e (by omega)
      rw [this]
    · simp only [if_neg h0]
theorem rdF_none {d : List Stp} {ns : List Nat} (hn : ns.Nodup) {j : Nat} (hj : j < ns.length) (hw : (stZ d ns[j]).k = 2 ∨ lsF d (ns.take j) (stZ d ns[j]).m = none) : rdF d ns (j + 1) = rdF d ns j := by
  funext q
  unfold rdF
  by_cases h0 : 0 ≤ q
  · rw [if_pos h0, if_pos h0]
    have : rdV d ns (j + 1) q.toNat = rdV d ns j q.toNat := by
      rw [rdV]
      by_cases c : ns.getD j 0 = q.toNat ∧ (stZ d q.toNat).k ≠ 2
      · rw [if_pos c]
        obtain ⟨c1, c2⟩ := c
        rw [← List.getElem_eq_getD (h := hj)] at c1
        rw [← c1] at c2 ⊢
        rcases hw with hw | hw
        · exact absurd hw c2
        · unfold lsF at hw
          rw [Option.map_eq_none_iff.1 hw, rdV_out (by omega)]
          intro hm
          obtain ⟨i, hi, e⟩ := List.getElem_of_mem hm
          rw [List.getElem_take] at e
          have := (List.getElem_inj hn).1 e
          rw [List.length_take] at hi
          omega
      · rw [if_neg c]
    rw [this]
  · rw [if_neg h0, if_neg h0]

/-- What is so behind j numbers. -/
structure VwAt (w : World) (d : List Stp) (ns : List Nat) (j : Nat) (wr : World) : Prop where
  rd : MapV Tryd.prog mkI wr (w.heap.size + 1) j (rdF d ns j)
  ls : MapV Tryd.prog mkI wr (w.heap.size + 2) j (lsF d (ns.take j))
  vc : wr.heap[w.heap.size + 3]? = some (.cells #[.map (some (w.heap.size + 1)), .map (some (w.heap.size + 2))] 79 (0, 0))
  rc : wr.heap[w.heap.size]? = some (.cells #[.map none, .map none] 79 (0, 0))
  bel : Below w.heap.size w wr
theorem VwAt.start (w : World) (d : List Stp) (ns : List Nat) : VwAt w d ns 0 ((((w.alloc (.cells #[.map none, .map none] 79)).alloc (.map #[] 0)).alloc (.map #[] 0)).alloc (.cells #[.map (some (w.heap.size + 1)), .map (some (w.heap.size + 2))] 79)) := by
  obtain ⟨W1, h1⟩ : ∃ W1, W1 = w.alloc (.cells #[.map none, .map none] 79) := ⟨_, rfl⟩
  obtain ⟨W2, h2⟩ : ∃ W2, W2 = W1.alloc (.map #[] 0) := ⟨_, rfl⟩
  obtain ⟨W3, h3⟩ : ∃ W3, W3 = W2.alloc (.map #[] 0) := ⟨_, rfl⟩
  have s1 : W1.heap.size = w.heap.size + 1 := by rw [h1]; simp
  have s2 : W2.heap.size = w.heap.size + 2 := by rw [h2, World.size_alloc, s1]
  have s3 : W3.heap.size = w.heap.size + 3 := by rw [h3, World.size_alloc, s2]
  rw [← h1, ← h2, ← h3]
  have b1 : W1.heap[w.heap.size]? = some (.cells #[.map none, .map none] 79 (0, 0)) := by rw [h1]; exact heap_alloc_new w _
  have m1 : MapV Tryd.prog mkI W2 (w.heap.size + 1) 0 (fun _ => none) := by rw [h2, ← s1]; exact mapV_made W1 _ _
  have m2 : MapV Tryd.prog mkI W3 (w.heap.size + 2) 0 (fun _ => none) := by rw [h3, ← s2]; exact mapV_made W2 _ _
  have e0 : rdF d ns 0 = fun _ => none := by funext q; unfold rdF rdV; split <;> rfl
  have e1 : lsF d (ns.take 0) = fun _ => none := by funext q; rfl
  refine ⟨?_, ?_, ?_, ?_, ?_⟩
  · rw [e0, h3]; exact (m1.alloc _).alloc _
  · rw [e1]; exact m2.alloc _
  · rw [← s3]; exact heap_alloc_new W3 _
  · have k2 := (Below.heap_alloc W1 (.map #[] 0) w.heap.size (by omega)).trans b1
    rw [← h2] at k2
    have k3 := (Below.heap_alloc W2 (.map #[] 0) w.heap.size (by omega)).trans k2
    rw [← h3] at k3
    exact (Below.heap_alloc W3 _ w.heap.size (by omega)).trans k3
  · have := belA (belA (belA (belA (Below.refl w.heap.size w) (.cells #[.map none, .map none] 79)) (.map #[] 0)) (.map #[] 0)) (.cells #[.map (some (w.heap.size + 1)), .map (some (w.heap.size + 2))] 79)
    rw [← h1, ← h2, ← h3] at this
    exact this
theorem VwAt.turn {w : World} {d : List Stp} {ns : List Nat} {j j' : Nat} {wr w' : World} (h : VwAt w d ns j wr) {M : Nat} (hg : wr.grownBy w' (some M)) (hM : M = w.heap.size + 1 ∨ M = w.heap.size + 2)
    (h1 : MapV Tryd.prog mkI w' (w.heap.size + 1) j' (rdF d ns j')) (h2 : MapV Tryd.prog mkI w' (w.heap.size + 2) j' (lsF d (ns.take j'))) : VwAt w d ns j' w' :=
  ⟨h1, h2, (hg.block _ (lt_of_heap h.vc) (by simp; omega)).trans h.vc, (hg.block _ (lt_of_heap h.rc) (by simp; omega)).trans h.rc, h.bel.grown hg h.bel.size (fun k hk => by obtain rfl := Option.some.inj hk; omega)⟩

theorem wf_small {n : Int} (h0 : -9223372036854775808 ≤ n) (h1 : n ≤ 9223372036854775807) : (Lit.int .i64 n).wf = true := by
  have e0 : IntKind.i64.min = -9223372036854775808 := rfl
  have e1 : IntKind.i64.max = 9223372036854775807 := rfl
  simp only [Lit.wf, e0, e1, decide_eq_true h0, decide_eq_true h1, Bool.and_self]
theorem load79 {w : World} {g : Nat} {x y : Value} (h0 : w.cell? ⟨g, 0, none⟩ = some x) (h1 : w.cell? ⟨g, 1, none⟩ = some y) : (loadVar 79 ⟨g, 0, none⟩).run Tryd.prog w = .ok (.agg #[x, y]) w :=
  run_loadVar_mid w g 0 79 [x, y] _ (fun j u hu => by
    match j, hu with
    | 0, hu => simp at hu; subst hu; exact h0
    | 1, hu => simp at hu; subst hu; exact h1) Tryd.underlying79 rfl (by kernel_rfl)
/-- A view in memory. -/
def ViewV (w : World) (base : Nat) (v : Value) (d : List Stp) (ns : List Nat) : Prop :=
  ∃ R L, v = .agg #[.map (some R), .map (some L)] ∧ base ≤ R ∧ base ≤ L ∧ MapV Tryd.prog mkI w R ns.length (rdF d ns ns.length) ∧ MapV Tryd.prog mkI w L ns.length (lsF d ns)

set_option maxRecDepth 100000 in
set_option maxHeartbeats 4000000 in
theorem viewOf_any (d : List Stp) (ns : List Nat) (hn : ns.Nodup) (hlt : ∀ n ∈ ns, n < d.length) (hl100 : ns.length ≤ 100) (hdl : d.length ≤ 100) (hwf : ∀ n, n < d.length → 0 ≤ (stZ d n).m ∧ (stZ d n).m ≤ 7) (a : Option Addr) (cap : Nat) (v : Value) (w : World) (hd : StpsQ w a d) (hv : HasI w v (natI ns)) :
    Calls Tryd.prog 37 #[.slice a d.length cap, v] w fun e w' => ∃ u, e = .returned u ∧ ViewV w' w.heap.size u d ns ∧ Below w.heap.size w w' := by
  obtain ⟨va, vc, rfl, hvc, hcell⟩ := hv
  have hnl : (natI ns).length = ns.length := natI_len _
  rw [hnl] at hvc
  have HCell : Hid (∀ j (h : j < ns.length), ∃ g off, va = some ⟨g, off, none⟩ ∧ w.cell? ⟨g, off + j, none⟩ = some (.int .i64 (ns[j] : Int))) := fun j h => by
    obtain ⟨g, off, e, hc⟩ := hcell j (by rw [hnl]; exact h)
    exact ⟨g, off, e, by rw [hc]; simp [natI]⟩
  rw [hnl]
  clear hcell hnl
  have HD := hideIt hd
  have HWf := hideIt hwf
  have HLt := hideIt hlt
  have HN := hideIt hn
  clear hd hn hlt hwf
  have HA0 := hideIt (VwAt.start w d ns)
  have hmm := @run_makeMap Tryd.prog
  go_enter Tryd.func37, Tryd.ntmps37
  go_wp2
  clear hmm
  generalize (((w.alloc _).alloc _).alloc _).alloc _ = W at HA0 ⊢
  go_loopw [16] (fun i wr => ∃ j : Nat, j ≤ ns.length ∧ i = .int .i64 j ∧ VwAt w d ns j wr) (fun i _ => ns.length - (intOf i).toNat)
  case atStart => exact ⟨0, Nat.zero_le _, rfl, HA0.out⟩
  case round =>
    clear HA0
    obtain ⟨j, hj, rfl, ha⟩ := hrel
    have HA := hideIt ha
    clear ha
    by_cases hjl : j < ns.length
    · obtain ⟨g, off, rfl, r0⟩ := HCell.out j hjl
      have hgl := World.block_lt_of_cell? w _ r0
      have r1 := (HA.out.bel.cell (p := ⟨g, off + j, none⟩) hgl).trans r0
      have hnd := HLt.out _ (List.getElem_mem hjl)
      obtain ⟨b, bo, rfl, hb, hst⟩ : ∃ b bo, a = some ⟨b, bo, none⟩ ∧ b < w.heap.size ∧ StpsAt w b bo d := by
        rcases HD.out with h | h
        · subst h; simp at hnd
        · exact h
      obtain ⟨c0, c1, c2⟩ := (hst _ hnd).below hb HA.out.bel
      have hm := HWf.out _ hnd
      have HT : Hid (ns.take (j + 1) = ns.take j ++ [ns[j]]) := List.take_succ_eq_append_getElem hjl
      have HPut : Hid ((stZ d ns[j]).k = 2 → lsF d (ns.take (j + 1)) = putK (lsF d (ns.take j)) (stZ d ns[j]).m (some (ns[j] : Int))) := fun h => by rw [HT.out]; exact lsF_put h
      have HSame : Hid ((stZ d ns[j]).k ≠ 2 → lsF d (ns.take (j + 1)) = lsF d (ns.take j)) := fun h => by rw [HT.out]; exact lsF_same h
      have HAt : Hid (∀ w, (stZ d ns[j]).k ≠ 2 → lsF d (ns.take j) (stZ d ns[j]).m = some w → rdF d ns (j + 1) = putK (rdF d ns j) (ns[j] : Int) (some w)) := fun w h1 h2 => rdF_at hjl h1 h2
      have HNone : Hid (((stZ d ns[j]).k = 2 ∨ lsF d (ns.take j) (stZ d ns[j]).m = none) → rdF d ns (j + 1) = rdF d ns j) := rdF_none HN.out hjl
      rw [stZ_at hnd] at hm HPut HSame HAt HNone
      clear r0 hst HT
      generalize hx : d[ns[j]] = x at c0 c1 c2 hm HPut HSame HAt HNone
      clear hx
      generalize ns[j] = n at r1 hnd c0 c1 c2 HPut HAt
      have hjl' : (j : Int) < ns.length := by omega
      have hnd' : (n : Int) < d.length := by omega
      have kw : (Lit.int .i64 x.m).wf = true := wf_small (by omega) (by omega)
      have nw : (Lit.int .i64 (n : Int)).wf = true := wf_small (by omega) (by omega)
      have vb := HA.out.vc
      have v0 : wr.cell? ⟨w.heap.size + 3, 0, none⟩ = some (.map (some (w.heap.size + 1))) := cell_of_row _ _ _ _ 79 _ vb
      have v1 : wr.cell? ⟨w.heap.size + 3, 1, none⟩ = some (.map (some (w.heap.size + 2))) := cell_of_row _ _ _ _ 79 _ vb
      clear vb
      by_cases h2 : x.k = 2
      · have e1 := HPut.out h2
        have e2 := HNone.out (.inl h2)
        have HE := hideIt (And.intro e1 e2)
        rw [h2] at c1
        clear HPut HSame HAt HNone e1 e2
        go_wp2_with (at_mapUpdate; refine wpList_store_v _ Tryd.underlying3 rfl _ _ _ _ rfl _ Tryd.underlying77 (w.heap.size + 2) j (lsF d (ns.take j)) rfl HA.out.ls (by omega) x.m rfl kw (n : Int) rfl ?_; intro w3 hm3 hg3)
        have R : Hid (VwAt w d ns (j + 1) w3) := HA.out.turn hg3 (.inr rfl) (by rw [HE.out.2]; exact (HA.out.rd.kept hg3 (by simp)).mono (by omega)) (by rw [HE.out.1]; exact hm3)
        clear hm3 hg3
        go_wp2
        go_roundw
        case rel => exact ⟨j + 1, by omega, by go_num, R.out⟩
        case measure => simp [intOf]; omega
      · have h2' : (x.k == 2) = false := by simp [h2]
        have e1 := hideIt (HSame.out h2)
        cases hls : lsF d (ns.take j) x.m with
        | none =>
          have e2 := hideIt (HNone.out (.inr hls))
          have HLs := hideIt hls
          have R : Hid (VwAt w d ns (j + 1) wr) := ⟨by rw [e2.out]; exact HA.out.rd.mono (by omega), by rw [e1.out]; exact HA.out.ls.mono (by omega), HA.out.vc, HA.out.rc, HA.out.bel⟩
          clear hls HPut HSame HAt HNone
          go_wp2_with (at_lookup; refine wpList_look_none _ Tryd.underlying3 rfl _ _ rfl Tryd.underlying77 (w.heap.size + 2) j (lsF d (ns.take j)) (zero3 _) rfl HA.out.ls x.m rfl kw HLs.out ?_)
          go_roundw
          case rel => exact ⟨j + 1, by omega, by go_num, R.out⟩
          case measure => simp [intOf]; omega
        | some u =>
          have e2 := hideIt (HAt.out u h2 hls)
          have HLs := hideIt hls
          clear hls HPut HSame HAt HNone
          go_wp2_with (first | (at_lookup; refine wpList_look_some _ Tryd.underlying3 rfl _ _ rfl Tryd.underlying77 (w.heap.size + 2) j (lsF d (ns.take j)) (zero3 _) rfl HA.out.ls x.m rfl kw u HLs.out ?_) | (at_mapUpdate; refine wpList_store_v _ Tryd.underlying3 rfl _ _ _ _ rfl _ Tryd.underlying77 (w.heap.size + 1) j (rdF d ns j) rfl HA.out.rd (by omega) (n : Int) rfl nw u rfl ?_; intro w3 hm3 hg3))
          have R : Hid (VwAt w d ns (j + 1) w3) := HA.out.turn hg3 (.inl rfl) (by rw [e2.out]; exact hm3) (by rw [e1.out]; exact (HA.out.ls.kept hg3 (by simp)).mono (by omega))
          clear hm3 hg3
          go_wp2
          go_roundw
          case rel => exact ⟨j + 1, by omega, by go_num, R.out⟩
          case measure => simp [intOf]; omega
    · obtain rfl : j = ns.length := by omega
      have vb := HA.out.vc
      have rb := HA.out.rc
      have v0 : wr.cell? ⟨w.heap.size + 3, 0, none⟩ = some (.map (some (w.heap.size + 1))) := cell_of_row _ _ _ _ 79 _ vb
      have v1 : wr.cell? ⟨w.heap.size + 3, 1, none⟩ = some (.map (some (w.heap.size + 2))) := cell_of_row _ _ _ _ 79 _ vb
      have r0 : wr.cell? ⟨w.heap.size, 0, none⟩ = some (.map none) := cell_of_row _ _ _ _ 79 _ rb
      have r1 : wr.cell? ⟨w.heap.size, 1, none⟩ = some (.map none) := cell_of_row _ _ _ _ 79 _ rb
      have z0 := frozen_of_row wr w.heap.size 0 _ 79 rb
      have z1 := frozen_of_row wr w.heap.size 1 _ 79 rb
      clear vb rb
      have hg : wr.grownBy ((wr.setCell ⟨w.heap.size, 0, none⟩ (.map (some (w.heap.size + 1)))).setCell ⟨w.heap.size, 1, none⟩ (.map (some (w.heap.size + 2)))) (some w.heap.size) := (grown_setCell wr ⟨w.heap.size, 0, none⟩ _).andThen (grown_setCell _ ⟨w.heap.size, 1, none⟩ _) (fun k hk => .inr hk)
      have HV : Hid (ViewV ((wr.setCell ⟨w.heap.size, 0, none⟩ (.map (some (w.heap.size + 1)))).setCell ⟨w.heap.size, 1, none⟩ (.map (some (w.heap.size + 2)))) w.heap.size (.agg #[.map (some (w.heap.size + 1)), .map (some (w.heap.size + 2))]) d ns) := by
        have h1 := HA.out.ls.kept hg (by simp)
        rw [List.take_length] at h1
        exact ⟨_, _, rfl, by omega, by omega, HA.out.rd.kept hg (by simp), h1⟩
      have HB : Hid (Below w.heap.size w ((wr.setCell ⟨w.heap.size, 0, none⟩ (.map (some (w.heap.size + 1)))).setCell ⟨w.heap.size, 1, none⟩ (.map (some (w.heap.size + 2))))) := (HA.out.bel.setCell (p := ⟨w.heap.size, 0, none⟩) (Nat.le_refl _) _).setCell (p := ⟨w.heap.size, 1, none⟩) (Nat.le_refl _) _
      have y0 : ((wr.setCell ⟨w.heap.size, 0, none⟩ (.map (some (w.heap.size + 1)))).setCell ⟨w.heap.size, 1, none⟩ (.map (some (w.heap.size + 2)))).cell? ⟨w.heap.size, 0, none⟩ = some (.map (some (w.heap.size + 1))) := (World.cell?_setCell_other _ _ _ _ (offN (by decide))).trans (World.cell?_setCell_same _ _ _ r0)
      have y1 : ((wr.setCell ⟨w.heap.size, 0, none⟩ (.map (some (w.heap.size + 1)))).setCell ⟨w.heap.size, 1, none⟩ (.map (some (w.heap.size + 2)))).cell? ⟨w.heap.size, 1, none⟩ = some (.map (some (w.heap.size + 2))) := World.cell?_setCell_same _ _ _ ((World.cell?_setCell_other _ _ _ _ (offN (by decide))).trans r1)
      have HLd := hideIt (load79 y0 y1)
      clear hg y0 y1
      go_wp2
      refine bodyPost_ret (results_one rfl _ _ _ _ rfl HLd.out) rfl ?_
      exact ⟨_, rfl, HV.out, HB.out⟩
end Go.Proofs.YtibdchahallbjabDoor

namespace Go.Proofs.YtibdchahallbjabDoor
open Go.RowKit

set_option maxRecDepth 100000 in
set_option maxHeartbeats 2000000 in
theorem pMixed_any (d : List Stp) (a : Option Addr) (cap : Nat) (w : World) (hn : d.length ≤ 60) :
    Calls Tryd.prog 38 #[.slice a d.length cap] w fun e w' => ∃ v, e = .returned v ∧ HasI w' v (natI (List.range d.length)) ∧ Below w.heap.size w w' := by
  have hmk := made_nums w d.length hn
  have HN0 := hideIt (nums_made w d.length)
  have HB0 : Hid (Below w.heap.size w (w.alloc (.cells (madeCells #[.int .i64 0] d.length) 3))) := belA (Below.refl _ _) _
  go_enter Tryd.func38, Tryd.ntmps38
  go_wp2
  generalize w.alloc _ = W at HN0 HB0 ⊢
  clear hmk
  go_loopw [10] (fun i wr => ∃ k : Nat, k ≤ d.length ∧ i = .int .i64 k ∧ NumsAt wr w.heap.size d.length (fun q => if q < k then q else 0) ∧ Below w.heap.size w wr) (fun i _ => d.length - (intOf i).toNat)
  case atStart => exact ⟨0, Nat.zero_le _, rfl, HN0.out.same fun q _ => by simp, HB0.out⟩
  case round =>
    clear HN0 HB0
    obtain ⟨k, hk, rfl, hna, hb⟩ := hrel
    have HN := hideIt hna
    have HB := hideIt hb
    clear hna hb
    by_cases hkl : k < d.length
    · have c0 := HN.out.num k hkl
      have z0 := HN.out.fz k
      have hkl' : (k : Int) < d.length := by omega
      have R1 : Hid (NumsAt (wr.setCell ⟨w.heap.size, k, none⟩ (.int .i64 ((k : Nat) : Int))) w.heap.size d.length (fun q => if q < k + 1 then q else 0)) := (HN.out.put hkl k).same fun q hq => by
        show (if q = k then k else if q < k then q else 0) = if q < k + 1 then q else 0
        by_cases e : q = k
        · rw [if_pos e, if_pos (by omega), e]
        · rw [if_neg e]
          by_cases e2 : q < k
          · rw [if_pos e2, if_pos (by omega)]
          · rw [if_neg e2, if_neg (by omega)]
      have R2 : Hid (Below w.heap.size w (wr.setCell ⟨w.heap.size, k, none⟩ (.int .i64 ((k : Nat) : Int)))) := HB.out.setCell (p := ⟨w.heap.size, k, none⟩) (Nat.le_refl _) _
      go_wp2
      go_roundw
      case rel => exact ⟨k + 1, by omega, by go_num, R1.out, R2.out⟩
      case measure => simp [intOf]; omega
    · obtain rfl : k = d.length := by omega
      have R : Hid (HasI wr (.slice (some ⟨w.heap.size, 0, none⟩) d.length d.length) (natI (List.range d.length))) := by
        have := (HN.out.same (f' := fun q => q) fun q hq => if_pos hq).hasI
        exact this
      go_wp2
      go_ret
      exact ⟨_, rfl, R.out, HB.out⟩

theorem serL_snoc {α : Type} (tx : α → Nat) (d : List α) (t : Nat) : ∀ ord : List Nat, serL tx d (ord ++ [t]) = serL tx d ord ++ d.filter (fun s => tx s == t)
  | [] => by simp [serL]
  | u :: ord => by
    show d.filter (fun s => tx s == u) ++ serL tx d (ord ++ [t]) = (d.filter (fun s => tx s == u) ++ serL tx d ord) ++ _
    rw [serL_snoc tx d t ord, List.append_assoc]
theorem range_filter (p : Nat → Bool) (j : Nat) : (List.range (j + 1)).filter p = (List.range j).filter p ++ if p j = true then [j] else [] := by
  rw [List.range_succ, List.filter_append]
  cases e : p j <;> simp [e]

set_option maxRecDepth 100000 in
set_option maxHeartbeats 4000000 in
theorem apart_any (d : List Stp) (ord : List Nat) (hp : ∀ n, n < d.length → 0 ≤ (stZ d n).p) (a : Option Addr) (cap : Nat) (v : Value) (w : World) (hn : d.length ≤ 60) (ho : ord.length ≤ 8) (hd : StpsQ w a d) (hv : HasI w v (natI ord)) :
    Calls Tryd.prog 42 #[.slice a d.length cap, v] w fun e w' => ∃ u, e = .returned u ∧ HasI w' u (natI (apL d ord)) ∧ Below w.heap.size w w' := by
  obtain ⟨va, vc, rfl, hvc, hcell⟩ := hv
  have hnl : (natI ord).length = ord.length := natI_len _
  have HCell : Hid (∀ j (h : j < ord.length), ∃ g off, va = some ⟨g, off, none⟩ ∧ w.cell? ⟨g, off + j, none⟩ = some (.int .i64 (ord[j] : Int))) := fun j h => by
    obtain ⟨g, off, e, hc⟩ := hcell j (by rw [hnl]; exact h)
    exact ⟨g, off, e, by rw [hc]; simp [natI]⟩
  rw [hnl]
  clear hcell hnl hvc
  have HD := hideIt hd
  have HP := hideIt hp
  clear hd hp
  have hmk := made_room w d.length hn
  have HR0 := hideIt (room_made w d.length hn)
  have HB0 : Hid (Below w.heap.size w (w.alloc (.cells (madeCells #[.int .i64 0] d.length) 3))) := belA (Below.refl _ _) _
  have HSer : Hid (∀ i (h : i < ord.length), serL (txN d) (List.range d.length) (ord.take (i + 1)) = serL (txN d) (List.range d.length) (ord.take i) ++ (List.range d.length).filter fun s => txN d s == ord[i]) := fun i h => by
    rw [List.take_succ_eq_append_getElem h]; exact serL_snoc _ _ _ _
  have HLen : Hid (∀ i j t, (serL (txN d) (List.range d.length) (ord.take i) ++ (List.range j).filter fun s => txN d s == t).length ≤ 540 + j) := fun i j t => by
    have h1 : ∀ o : List Nat, (serL (txN d) (List.range d.length) o).length ≤ o.length * d.length := fun o => by
      induction o with
      | nil => simp [serL]
      | cons u o ih =>
        have : (serL (txN d) (List.range d.length) (u :: o)).length = ((List.range d.length).filter fun s => txN d s == u).length + (serL (txN d) (List.range d.length) o).length := by
          show (_ ++ _ : List Nat).length = _
          rw [List.length_append]
        rw [this]
        have h2 := List.length_filter_le (fun s => txN d s == u) (List.range d.length)
        rw [List.length_range] at h2
        rw [List.length_cons, Nat.succ_mul]
        omega
    have h2 := h1 (ord.take i)
    have h3 : (ord.take i).length * d.length ≤ 9 * 60 := Nat.mul_le_mul (by rw [List.length_take]; omega) hn
    have h4 := List.length_filter_le (fun s => txN d s == t) (List.range j)
    rw [List.length_range] at h4
    rw [List.length_append]
    omega
  go_enter Tryd.func42, Tryd.ntmps42
  go_wp2
  generalize w.alloc _ = W at HR0 HB0 ⊢
  clear hmk
  go_loopw [5, 15] (fun u i wr => ∃ k : Nat, k ≤ ord.length ∧ i = .int .i64 k ∧ RowAt wr w.heap.size u (natI (serL (txN d) (List.range d.length) (ord.take k))) ∧ Below w.heap.size w wr) (fun _ i _ => ord.length - (intOf i).toNat)
  case atStart => exact ⟨0, Nat.zero_le _, rfl, HR0.out, HB0.out⟩
  case round =>
    clear HR0 HB0
    obtain ⟨k, hk, rfl, hrow, hb⟩ := hrel
    have HRow := hideIt hrow
    have HB := hideIt hb
    clear hrow hb
    by_cases hkl : k < ord.length
    · obtain ⟨g, go, rfl, r0⟩ := HCell.out k hkl
      have r1 := (HB.out.cell (p := ⟨g, go + k, none⟩) (World.block_lt_of_cell? w _ r0)).trans r0
      have HS := hideIt (HSer.out k hkl)
      have HLn := hideIt (fun j => HLen.out k j ord[k])
      clear r0
      generalize ord[k] = t at r1 HS HLn
      have hkl' : (k : Int) < ord.length := by omega
      generalize serL (txN d) (List.range d.length) (ord.take k) = D at HRow HS HLn
      go_wp2
      clear r1
      go_loopw [5, 21] (fun u i wi => ∃ j : Nat, j ≤ d.length ∧ i = .int .i64 j ∧ RowAt wi w.heap.size u (natI (D ++ (List.range j).filter fun s => txN d s == t)) ∧ Below w.heap.size w wi) (fun _ i _ => d.length - (intOf i).toNat)
      case atStart => exact ⟨0, Nat.zero_le _, rfl, by simpa using HRow.out, HB.out⟩
      case round =>
        clear HRow HB
        obtain ⟨j, hj, rfl, hrow, hb⟩ := hrel
        have HRow := hideIt hrow
        have HB := hideIt hb
        clear hrow hb
        obtain ⟨na, nc, rfl⟩ := HRow.out.slice
        by_cases hjl : j < d.length
        · obtain ⟨b, off, rfl, hlt, hst⟩ : ∃ b off, a = some ⟨b, off, none⟩ ∧ b < w.heap.size ∧ StpsAt w b off d := by
            rcases HD.out with h | h
            · subst h; simp at hjl
            · exact h
          obtain ⟨c0, c1, c2⟩ := (hst j hjl).below hlt HB.out
          have HX : Hid ((List.range (j + 1)).filter (fun s => txN d s == t) = (List.range j).filter (fun s => txN d s == t) ++ if (txN d j == t) = true then [j] else []) := range_filter _ j
          have hpj := HP.out j hjl
          have HTx : Hid ((txN d j == t) = ((stZ d j).p == (t : Int))) := by
            show _ = _
            rw [Bool.eq_iff_iff]
            unfold txN
            simp
            omega
          rw [HTx.out] at HX
          rw [stZ_at hjl] at HX hpj
          have hln := HLn.out j
          clear HTx
          generalize d[j] = x at c0 c1 c2 HX hpj
          have hjl' : (j : Int) < d.length := by omega
          generalize hE : D ++ (List.range j).filter (fun s => txN d s == t) = E at HRow hln ⊢
          have HX2 : Hid (D ++ (List.range (j + 1)).filter (fun s => txN d s == t) = E ++ if (x.p == (t : Int)) = true then [j] else []) := by
            show _ = _
            rw [HX.out, ← hE, List.append_assoc]
          have HBA : Hid (Below w.heap.size w (wr.alloc (.cells #[.int .i64 x.p, .int .i64 x.k, .int .i64 x.m] 40))) := belA HB.out _
          have HRA : Hid (RowAt (wr.alloc (.cells #[.int .i64 x.p, .int .i64 x.k, .int .i64 x.m] 40)) w.heap.size (.slice na (natI E).length nc) (natI E)) := HRow.out.belowR (belA (Below.refl _ _) _)
          have d0 : (wr.alloc (.cells #[.int .i64 x.p, .int .i64 x.k, .int .i64 x.m] 40)).cell? ⟨wr.heap.size, 0, none⟩ = some (.int .i64 x.p) := by simp
          have hws := HBA.out.size
          clear hE HX hst HRow HB
          have hnE : (natI E).length ≤ 700 := by rw [natI_len]; omega
          go_upto_region 8 with fail
          generalize wr.alloc _ = WA at HBA HRA d0 hws ⊢
          generalize wr.heap.size = Z at d0 ⊢
          clear c0 c1 c2
          by_cases he : x.p = (t : Int)
          · have he' : (x.p == (t : Int)) = true := by simp [he]
            rw [if_pos he'] at HX2
            have HRow2 : Hid (RowAt (WA.alloc (.cells #[.int .i64 (j : Int)] 3)) w.heap.size (.slice na (natI E).length nc) (natI E)) := HRA.out.belowR (belA (Below.refl _ _) _)
            clear he
            go_wp2_with (at_builtin; refine wpList_append_row rfl _ _ rfl w.heap.size _ (natI E) rfl HRow2.out WA.heap.size 1 (j : Int) rfl ?c1 ?c2 ?c3 ?_)
            case c1 => simp
            case c2 => omega
            case c3 => simp; omega
            intro v' w6 ht
            have HG2 : Hid (RowAt w6 w.heap.size v' (natI (D ++ (List.range (j + 1)).filter (fun s => txN d s == t)))) := by
              show RowAt w6 w.heap.size v' (natI (D ++ (List.range (j + 1)).filter (fun s => txN d s == t)))
              rw [HX2.out, natI_app]; exact ht.row
            have HG3 : Hid (Below w.heap.size w w6) := (belA HBA.out _).grown ht.grown (by simp; omega) (fun j hj => (HRA.out.lt j hj).1)
            clear ht
            go_wp2
            go_roundw
            case rel => exact ⟨j + 1, by omega, by go_num, HG2.out, HG3.out⟩
            case measure => simp [intOf]; omega
          · have he' : (x.p == (t : Int)) = false := by simp [he]
            rw [if_neg (by rw [he']; simp), List.append_nil] at HX2
            go_wp2
            go_roundw
            case rel => exact ⟨j + 1, by omega, by go_num, by rw [HX2.out]; exact HRA.out, HBA.out⟩
            case measure => simp [intOf]; omega
        · obtain rfl : j = d.length := by omega
          go_wp2
          go_roundw
          case rel => exact ⟨k + 1, by omega, by go_num, by rw [HS.out]; exact HRow.out, HB.out⟩
          case measure => simp [intOf]; omega
    · obtain rfl : k = ord.length := by omega
      rw [List.take_length] at HRow
      have HI : Hid (HasI wr u5 (natI (apL d ord))) := HRow.out.hasI
      go_wp2
      go_ret
      exact ⟨_, rfl, HI.out, HB.out⟩
end Go.Proofs.YtibdchahallbjabDoor
