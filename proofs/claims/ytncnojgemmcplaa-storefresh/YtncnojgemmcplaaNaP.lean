/-
  The program's net, walked: Waiting, At.
-/
import Derived.Test.YtncnojgemmcplaaNpM
namespace Go.Proofs.Ytncnojgemmcplaa
open Go.RowKit

theorem results_cell2 {fn : Func} {p u : Tmp} {ty : TypeId} (h : fn.results = #[.cell p ty, .tmp u]) (tmps : Array Value) (w : World) (g : Nat) (v : Value)
    (hp : tmps.getD p undef = .pointer (some ⟨g, 0, none⟩)) (hl : (loadVar ty ⟨g, 0, none⟩).run Try.prog w = .ok v w) : (results fn tmps).run Try.prog w = .ok (.tuple #[v, tmps.getD u undef]) w := by
  rw [results_cell_tmp h]
  simp only [hp, asAddr, Sem.run_pure, Result.andThen_ok, hl]
theorem loadMq {w : World} {g o : Nat} {m : Mq} (h : w.cell? ⟨g, o, none⟩ = some (.int .i64 m.fr) ∧ w.cell? ⟨g, o + 1, none⟩ = some (.int .i64 m.tt) ∧ w.cell? ⟨g, o + 2, none⟩ = some (.int .i64 m.key) ∧ w.cell? ⟨g, o + 3, none⟩ = some (.int .i64 m.rd) ∧ w.cell? ⟨g, o + 4, none⟩ = some (.bool m.tells) ∧ w.cell? ⟨g, o + 5, none⟩ = some (.int .i64 m.t) ∧ w.cell? ⟨g, o + 6, none⟩ = some (.int .i64 m.c) ∧ w.cell? ⟨g, o + 7, none⟩ = some (.int .i64 m.v)) : (loadVar 73 ⟨g, o, none⟩).run Try.prog w = .ok (mqV m) w :=
  run_loadVar_mid w g o 73 (mqC m) _ (fun j y hy => by
    obtain ⟨h0, h1, h2, h3, h4, h5, h6, h7⟩ := h
    match j with
    | 0 => simp [mqC] at hy; subst hy; exact h0
    | 1 => simp [mqC] at hy; subst hy; exact h1
    | 2 => simp [mqC] at hy; subst hy; exact h2
    | 3 => simp [mqC] at hy; subst hy; exact h3
    | 4 => simp [mqC] at hy; subst hy; exact h4
    | 5 => simp [mqC] at hy; subst hy; exact h5
    | 6 => simp [mqC] at hy; subst hy; exact h6
    | 7 => simp [mqC] at hy; subst hy; exact h7
    | j + 8 => simp [mqC] at hy) Try.underlying73 rfl sizeMq

set_option maxRecDepth 100000 in
theorem pwait_any (base B o : Nat) (lv v : Value) (L : List Mq) (w : World) (h : NetP w base B o lv v L) :
    Calls Try.prog 50 #[.pointer (some ⟨B, o, none⟩)] w fun e w' => e = .returned (.int .i64 (L.length : Int)) ∧ w' = w := by
  obtain ⟨va, vc, rfl⟩ := h.slice
  have c0 := h.c0
  clear h
  go_enter Try.func50, Try.ntmps50
  go_wp2
  go_ret
  exact ⟨rfl, rfl⟩

/-- What At tells. -/
def AtQ (L : List Mq) (i : Int) (w : World) (e : Ending) (w' : World) : Prop :=
  (((i < 0 ∨ (L.length : Int) ≤ i) ∧ e = .returned (.tuple #[mqV mq0, .bool false])) ∨ ∃ (k : Nat) (m : Mq), i = k ∧ L[k]? = some m ∧ e = .returned (.tuple #[mqV m, .bool true])) ∧ Below w.heap.size w w'

set_option maxRecDepth 100000 in
set_option maxHeartbeats 4000000 in
theorem pat_any (i : Int) (base B o : Nat) (lv v : Value) (L : List Mq) (w : World) (h : NetP w base B o lv v L) :
    Calls Try.prog 33 #[.pointer (some ⟨B, o, none⟩), .int .i64 i] w fun e w' => AtQ L i w e w' := by
  have HB0 := hideIt (belA (Below.refl _ w) (.cells #[.int .i64 0, .int .i64 0, .int .i64 0, .int .i64 0, .bool false, .int .i64 0, .int .i64 0, .int .i64 0] 73))
  have HZ : Hid ((w.alloc (.cells #[.int .i64 0, .int .i64 0, .int .i64 0, .int .i64 0, .bool false, .int .i64 0, .int .i64 0, .int .i64 0] 73)).cell? ⟨w.heap.size, 0, none⟩ = some (.int .i64 0) ∧ (w.alloc (.cells #[.int .i64 0, .int .i64 0, .int .i64 0, .int .i64 0, .bool false, .int .i64 0, .int .i64 0, .int .i64 0] 73)).cell? ⟨w.heap.size, 1, none⟩ = some (.int .i64 0) ∧ (w.alloc (.cells #[.int .i64 0, .int .i64 0, .int .i64 0, .int .i64 0, .bool false, .int .i64 0, .int .i64 0, .int .i64 0] 73)).cell? ⟨w.heap.size, 2, none⟩ = some (.int .i64 0) ∧ (w.alloc (.cells #[.int .i64 0, .int .i64 0, .int .i64 0, .int .i64 0, .bool false, .int .i64 0, .int .i64 0, .int .i64 0] 73)).cell? ⟨w.heap.size, 3, none⟩ = some (.int .i64 0) ∧ (w.alloc (.cells #[.int .i64 0, .int .i64 0, .int .i64 0, .int .i64 0, .bool false, .int .i64 0, .int .i64 0, .int .i64 0] 73)).cell? ⟨w.heap.size, 4, none⟩ = some (.bool false) ∧ (w.alloc (.cells #[.int .i64 0, .int .i64 0, .int .i64 0, .int .i64 0, .bool false, .int .i64 0, .int .i64 0, .int .i64 0] 73)).cell? ⟨w.heap.size, 5, none⟩ = some (.int .i64 0) ∧ (w.alloc (.cells #[.int .i64 0, .int .i64 0, .int .i64 0, .int .i64 0, .bool false, .int .i64 0, .int .i64 0, .int .i64 0] 73)).cell? ⟨w.heap.size, 6, none⟩ = some (.int .i64 0) ∧ (w.alloc (.cells #[.int .i64 0, .int .i64 0, .int .i64 0, .int .i64 0, .bool false, .int .i64 0, .int .i64 0, .int .i64 0] 73)).cell? ⟨w.heap.size, 7, none⟩ = some (.int .i64 0)) := blkMq (m := mq0) (heap_alloc_new w _)
  have HZf : Hid (∀ j, (w.alloc (.cells #[.int .i64 0, .int .i64 0, .int .i64 0, .int .i64 0, .bool false, .int .i64 0, .int .i64 0, .int .i64 0] 73)).frozen? ⟨w.heap.size, j, none⟩ = false) := fun j => frozen_of_row _ _ _ _ 73 (heap_alloc_new w _)
  have hW := h.below HB0.out
  have HW := hideIt hW
  clear hW
  have hBl := h.lt
  have HV : Hid ((w.alloc (.cells #[.int .i64 0, .int .i64 0, .int .i64 0, .int .i64 0, .bool false, .int .i64 0, .int .i64 0, .int .i64 0] 73)).heap[w.heap.size]? = some (.cells #[.int .i64 0, .int .i64 0, .int .i64 0, .int .i64 0, .bool false, .int .i64 0, .int .i64 0, .int .i64 0] 73 (0, 0))) := heap_alloc_new w _
  have hbV := HB0.out
  have hsV : (w.alloc (.cells #[.int .i64 0, .int .i64 0, .int .i64 0, .int .i64 0, .bool false, .int .i64 0, .int .i64 0, .int .i64 0] 73)).heap.size = w.heap.size + 1 := by simp
  have HSV := hideIt hsV
  clear hsV
  by_cases h0 : i < 0
  · have h0' : decide (i < 0) = true := decide_eq_true h0
    have H0 := hideIt h0
    clear h h0
    go_enter Try.func33, Try.ntmps33
    go_upto_region 1 with fail
    obtain ⟨z0, z1, z2, z3, z4, z5, z6, z7⟩ := HZ.out
    have fz := HZf.out
    clear hbV
    generalize w.alloc (.cells #[.int .i64 0, .int .i64 0, .int .i64 0, .int .i64 0, .bool false, .int .i64 0, .int .i64 0, .int .i64 0] 73) = V at *
    go_wp2
    exact bodyPost_ret (results_cell2 rfl _ _ _ _ rfl (loadMq (m := mq0) (blkMq (m := mq0) (setMq HV.out)))) rfl ⟨.inl ⟨.inl H0.out, rfl⟩, setMq_bel _ _ _ _ _ _ _ _ HB0.out (Nat.le_refl _)⟩
  have h0' : decide (i < 0) = false := decide_eq_false h0
  have HWt := hideIt (pwait_any base B o lv v L _ HW.out)
  by_cases h1 : (L.length : Int) ≤ i
  · have h1' : decide (i ≥ (L.length : Int)) = true := decide_eq_true h1
    have H1 := hideIt h1
    clear h h1
    go_enter Try.func33, Try.ntmps33
    go_upto_region 1 with fail
    obtain ⟨z0, z1, z2, z3, z4, z5, z6, z7⟩ := HZ.out
    have fz := HZf.out
    clear hbV
    generalize w.alloc (.cells #[.int .i64 0, .int .i64 0, .int .i64 0, .int .i64 0, .bool false, .int .i64 0, .int .i64 0, .int .i64 0] 73) = V at *
    go_wp2_with fail
    refine HWt.out.mono ?_
    rintro e w1 ⟨rfl, rfl⟩
    go_wp2
    exact bodyPost_ret (results_cell2 rfl _ _ _ _ rfl (loadMq (m := mq0) (blkMq (m := mq0) (setMq HV.out)))) rfl ⟨.inl ⟨.inr H1.out, rfl⟩, setMq_bel _ _ _ _ _ _ _ _ HB0.out (Nat.le_refl _)⟩
  have h1' : decide (i ≥ (L.length : Int)) = false := decide_eq_false h1
  obtain ⟨k, rfl⟩ : ∃ k : Nat, i = k := ⟨i.toNat, by omega⟩
  have hk : k < L.length := by omega
  have hkL : (k : Int) < (L.length : Int) := by omega
  obtain ⟨g, cap, rfl, hcap, hbg, hcells⟩ := HW.out.at hk
  obtain ⟨m, hm⟩ : ∃ m, L[k]? = some m := ⟨_, List.getElem?_eq_getElem hk⟩
  obtain ⟨m0, m1, m2, m3, m4, m5, m6, m7⟩ := hcells m hm
  have HM := hideIt hm
  have c0 := HW.out.c0
  clear h hcells hm
  go_enter Try.func33, Try.ntmps33
  go_upto_region 1 with fail
  obtain ⟨z0, z1, z2, z3, z4, z5, z6, z7⟩ := HZ.out
  have fz := HZf.out
  clear hbV
  generalize w.alloc (.cells #[.int .i64 0, .int .i64 0, .int .i64 0, .int .i64 0, .bool false, .int .i64 0, .int .i64 0, .int .i64 0] 73) = V at *
  go_wp2_with fail
  refine HWt.out.mono ?_
  rintro e w1 ⟨rfl, rfl⟩
  go_wp2
  exact bodyPost_ret (results_cell2 rfl _ _ _ _ rfl (loadMq (m := m) (blkMq (m := m) (setMq HV.out)))) rfl ⟨.inr ⟨k, m, rfl, HM.out, rfl⟩, setMq_bel _ _ _ _ _ _ _ _ HB0.out (Nat.le_refl _)⟩
end Go.Proofs.Ytncnojgemmcplaa
