/-
  The program's net, walked: Waiting, At.
  The program's net, walked: Drop.
-/
import Derived.Test.YtggdjongbmdefaaDoorNpM
import Derived.Test.YtggdjongbmdefaaDoorNdP
namespace Go.Proofs.YtggdjongbmdefaaDoor
open Go.RowKit

theorem results_cell2 {fn : Func} {p u : Tmp} {ty : TypeId} (h : fn.results = #[.cell p ty, .tmp u]) (tmps : Array Value) (w : World) (g : Nat) (v : Value)
    (hp : tmps.getD p undef = .pointer (some ⟨g, 0, none⟩)) (hl : (loadVar ty ⟨g, 0, none⟩).run Tryd.prog w = .ok v w) : (results fn tmps).run Tryd.prog w = .ok (.tuple #[v, tmps.getD u undef]) w := by
  rw [results_cell_tmp h]
  simp only [hp, asAddr, Sem.run_pure, Result.andThen_ok, hl]
theorem loadMq {w : World} {g o : Nat} {m : Mq} (h : w.cell? ⟨g, o, none⟩ = some (.int .i64 m.fr) ∧ w.cell? ⟨g, o + 1, none⟩ = some (.int .i64 m.tt) ∧ w.cell? ⟨g, o + 2, none⟩ = some (.int .i64 m.wh)) : (loadVar 47 ⟨g, o, none⟩).run Tryd.prog w = .ok (mqV m) w :=
  run_loadVar_mid w g o 47 (mqC m) _ (fun j y hy => by
    obtain ⟨h0, h1, h2⟩ := h
    match j with
    | 0 => simp [mqC] at hy; subst hy; exact h0
    | 1 => simp [mqC] at hy; subst hy; exact h1
    | 2 => simp [mqC] at hy; subst hy; exact h2
    | j + 3 => simp [mqC] at hy) Tryd.underlying47 rfl sizeMq

set_option maxRecDepth 100000 in
theorem pwait_any (base B o : Nat) (lv v : Value) (L : List Mq) (w : World) (h : NetP w base B o lv v L) :
    Calls Tryd.prog 21 #[.pointer (some ⟨B, o, none⟩)] w fun e w' => e = .returned (.int .i64 (L.length : Int)) ∧ w' = w := by
  obtain ⟨va, vc, rfl⟩ := h.slice
  have c0 := h.c0
  clear h
  go_enter Tryd.func21, Tryd.ntmps21
  go_wp2
  go_ret
  exact ⟨rfl, rfl⟩

/-- What At tells. -/
def AtQ (L : List Mq) (i : Int) (w : World) (e : Ending) (w' : World) : Prop :=
  (((i < 0 ∨ (L.length : Int) ≤ i) ∧ e = .returned (.tuple #[mqV mq0, .bool false])) ∨ ∃ (k : Nat) (m : Mq), i = k ∧ L[k]? = some m ∧ e = .returned (.tuple #[mqV m, .bool true])) ∧ Below w.heap.size w w'

set_option maxRecDepth 100000 in
set_option maxHeartbeats 4000000 in
theorem pat_any (i : Int) (base B o : Nat) (lv v : Value) (L : List Mq) (w : World) (h : NetP w base B o lv v L) :
    Calls Tryd.prog 20 #[.pointer (some ⟨B, o, none⟩), .int .i64 i] w fun e w' => AtQ L i w e w' := by
  have HB0 := hideIt (belA (Below.refl _ w) (.cells #[.int .i64 0, .int .i64 0, .int .i64 0] 47))
  have HZ : Hid ((w.alloc (.cells #[.int .i64 0, .int .i64 0, .int .i64 0] 47)).cell? ⟨w.heap.size, 0, none⟩ = some (.int .i64 0) ∧ (w.alloc (.cells #[.int .i64 0, .int .i64 0, .int .i64 0] 47)).cell? ⟨w.heap.size, 1, none⟩ = some (.int .i64 0) ∧ (w.alloc (.cells #[.int .i64 0, .int .i64 0, .int .i64 0] 47)).cell? ⟨w.heap.size, 2, none⟩ = some (.int .i64 0)) := blkMq (m := mq0) (heap_alloc_new w _)
  have HZf : Hid (∀ j, (w.alloc (.cells #[.int .i64 0, .int .i64 0, .int .i64 0] 47)).frozen? ⟨w.heap.size, j, none⟩ = false) := fun j => frozen_of_row _ _ _ _ 47 (heap_alloc_new w _)
  have hW := h.below HB0.out
  have HW := hideIt hW
  clear hW
  have hBl := h.lt
  have HV : Hid ((w.alloc (.cells #[.int .i64 0, .int .i64 0, .int .i64 0] 47)).heap[w.heap.size]? = some (.cells #[.int .i64 0, .int .i64 0, .int .i64 0] 47 (0, 0))) := heap_alloc_new w _
  have hbV := HB0.out
  have hsV : (w.alloc (.cells #[.int .i64 0, .int .i64 0, .int .i64 0] 47)).heap.size = w.heap.size + 1 := by simp
  have HSV := hideIt hsV
  clear hsV
  by_cases h0 : i < 0
  · have h0' : decide (i < 0) = true := decide_eq_true h0
    have H0 := hideIt h0
    clear h h0
    go_enter Tryd.func20, Tryd.ntmps20
    go_upto_region 1 with fail
    obtain ⟨z0, z1, z2⟩ := HZ.out
    have fz := HZf.out
    clear hbV
    generalize w.alloc (.cells #[.int .i64 0, .int .i64 0, .int .i64 0] 47) = V at *
    go_wp2
    exact bodyPost_ret (results_cell2 rfl _ _ _ _ rfl (loadMq (m := mq0) (blkMq (m := mq0) (setMq HV.out)))) rfl ⟨.inl ⟨.inl H0.out, rfl⟩, setMq_bel _ _ _ HB0.out (Nat.le_refl _)⟩
  have h0' : decide (i < 0) = false := decide_eq_false h0
  have HWt := hideIt (pwait_any base B o lv v L _ HW.out)
  by_cases h1 : (L.length : Int) ≤ i
  · have h1' : decide (i ≥ (L.length : Int)) = true := decide_eq_true h1
    have H1 := hideIt h1
    clear h h1
    go_enter Tryd.func20, Tryd.ntmps20
    go_upto_region 1 with fail
    obtain ⟨z0, z1, z2⟩ := HZ.out
    have fz := HZf.out
    clear hbV
    generalize w.alloc (.cells #[.int .i64 0, .int .i64 0, .int .i64 0] 47) = V at *
    go_wp2_with fail
    refine HWt.out.mono ?_
    rintro e w1 ⟨rfl, rfl⟩
    go_wp2
    exact bodyPost_ret (results_cell2 rfl _ _ _ _ rfl (loadMq (m := mq0) (blkMq (m := mq0) (setMq HV.out)))) rfl ⟨.inl ⟨.inr H1.out, rfl⟩, setMq_bel _ _ _ HB0.out (Nat.le_refl _)⟩
  have h1' : decide (i ≥ (L.length : Int)) = false := decide_eq_false h1
  obtain ⟨k, rfl⟩ : ∃ k : Nat, i = k := ⟨i.toNat, by omega⟩
  have hk : k < L.length := by omega
  have hkL : (k : Int) < (L.length : Int) := by omega
  obtain ⟨g, cap, rfl, hcap, hbg, hcells⟩ := HW.out.at hk
  obtain ⟨m, hm⟩ : ∃ m, L[k]? = some m := ⟨_, List.getElem?_eq_getElem hk⟩
  obtain ⟨m0, m1, m2⟩ := hcells m hm
  have HM := hideIt hm
  have c0 := HW.out.c0
  clear h hcells hm
  go_enter Tryd.func20, Tryd.ntmps20
  go_upto_region 1 with fail
  obtain ⟨z0, z1, z2⟩ := HZ.out
  have fz := HZf.out
  clear hbV
  generalize w.alloc (.cells #[.int .i64 0, .int .i64 0, .int .i64 0] 47) = V at *
  go_wp2_with fail
  refine HWt.out.mono ?_
  rintro e w1 ⟨rfl, rfl⟩
  go_wp2
  exact bodyPost_ret (results_cell2 rfl _ _ _ _ rfl (loadMq (m := m) (blkMq (m := m) (setMq HV.out)))) rfl ⟨.inr ⟨k, m, rfl, HM.out, rfl⟩, setMq_bel _ _ _ HB0.out (Nat.le_refl _)⟩
end Go.Proofs.YtggdjongbmdefaaDoor

namespace Go.Proofs.YtggdjongbmdefaaDoor
open Go.RowKit

/-- What Drop tells. -/
def DropQ (base B o : Nat) (v : Value) (L : List Mq) (i : Int) (w : World) (e : Ending) (w' : World) : Prop :=
  ((i < 0 ∨ (L.length : Int) ≤ i) ∧ e = .returned (.iface 29 (.int .i64 8)) ∧ Below w.heap.size w w') ∨
  (∃ (k : Nat) (m : Mq), i = k ∧ L[k]? = some m ∧ e = .returned .nilIface ∧ MailTold base B o v (L.eraseIdx k) w w')

set_option maxRecDepth 100000 in
set_option maxHeartbeats 4000000 in
theorem pdrop_any (i : Int) (base B o : Nat) (lv v : Value) (L : List Mq) (hL : L.length ≤ 500) (w : World) (h : NetP w base B o lv v L) :
    Calls Tryd.prog 14 #[.pointer (some ⟨B, o, none⟩), .int .i64 i] w fun e w' => DropQ base B o v L i w e w' := by
  have HN := hideIt h
  have HA := hideIt (pat_any i base B o lv v L w h)
  clear h
  go_enter Tryd.func14, Tryd.ntmps14
  go_wp2_with fail
  refine HA.out.mono ?_
  clear HA
  rintro e W1 ⟨(⟨hi, rfl⟩ | ⟨k, m, rfl, hm, rfl⟩), hb⟩
  · have HI := hideIt hi
    have HB := hideIt hb
    unfold mqV mq0
    clear hi hb
    go_wp2
    go_ret
    exact .inl ⟨HI.out, rfl, by first | exact belA HB.out _ | (have := belA HB.out (.cells #[.int .i64 0, .int .i64 0, .int .i64 0] 47); exact this)⟩
  · have HM := hideIt hm
    have hk : k < L.length := (List.getElem?_eq_some_iff.1 hm).1
    have HB1 := hideIt (belA hb (.cells #[.int .i64 m.fr, .int .i64 m.tt, .int .i64 m.wh] 47))
    have hP := HN.out.below HB1.out
    have HP := hideIt hP
    have hwk : IntKind.i64.wrap ((k : Int) + 1) = (k : Int) + 1 := IntWalk.i64_in _ (by omega)
    have HD := hideIt (pdel_any k base v L hL hk _ hP.row)
    have c0 := hP.c0
    have HBs := hideIt hb.size
    clear hP hm hb
    unfold mqV
    go_wp2_with fail
    refine HD.out.mono ?_
    clear HD
    rintro e W2 ⟨v', rfl, hg, ho, hob⟩
    obtain ⟨a6, cap6, rfl⟩ := ownsRow_slice ho
    have eB : W2.heap[B]? = _ := hg.block B HP.out.lt (fun e => HN.out.ne e.symm)
    have c6 : W2.cell? ⟨B, o, none⟩ = some v := (World.cell?_of_block (a := ⟨B, o, none⟩) eB).trans HP.out.c0
    have f6 : W2.frozen? ⟨B, o, none⟩ = false := (World.frozen?_of_block (a := ⟨B, o, none⟩) eB).trans HP.out.f0
    have HG : Hid (MailTold base B o v (L.eraseIdx k) w (W2.setCell ⟨B, o, none⟩ (.slice a6 (L.eraseIdx k).length cap6))) :=
      ⟨_, MailT.of HN.out (((grown_below HB1.out).but _).trans hg) ho (.inl hob)⟩
    clear hg ho hob eB HP HB1 c0 HBs HN
    generalize (L.eraseIdx k).length = N6 at *
    go_wp2
    go_ret
    exact .inr ⟨k, m, rfl, HM.out, rfl, HG.out⟩
end Go.Proofs.YtggdjongbmdefaaDoor
