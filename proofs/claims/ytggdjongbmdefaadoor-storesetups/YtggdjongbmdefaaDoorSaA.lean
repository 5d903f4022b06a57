/-
  The program's stamps, and Check of a setup, walked.
-/
import Derived.Test.YtggdjongbmdefaaDoorCbPZ
import Derived.Test.YtggdjongbmdefaaDoorAbPZ
namespace Go.Proofs.YtggdjongbmdefaaDoor
open Go.RowKit

def HdAt (w : World) (g o : Nat) (h : Hd) : Prop := w.cell? ⟨g, o, none⟩ = some (.int .i64 h.s.t) ∧ w.cell? ⟨g, o + 1, none⟩ = some (.int .i64 h.s.c) ∧ w.cell? ⟨g, o + 2, none⟩ = some (.int .i64 h.v)
/-- What an error's number is as a value. -/
def toldE (c : Int) : Value := if c = 0 then .nilIface else .iface 29 (.int .i64 c)
theorem results_one {fn : Func} {p : Tmp} {ty : TypeId} (h : fn.results = #[.cell p ty]) (tmps : Array Value) (w : World) (g : Nat) (v : Value)
    (hp : tmps.getD p undef = .pointer (some ⟨g, 0, none⟩)) (hl : (loadVar ty ⟨g, 0, none⟩).run Tryd.prog w = .ok v w) : (results fn tmps).run Tryd.prog w = .ok v w := by
  have hp' : tmps[p]?.getD undef = .pointer (some ⟨g, 0, none⟩) := by simpa using hp
  simp [results, h, hp', asAddr, hl]
theorem sizeEn : (Tryd.prog.info? 93).map (·.size) = some 3 := by kernel_rfl
theorem loadEn {w : World} {g o : Nat} {h : Hd} (hh : HdAt w g o h) : (loadVar 93 ⟨g, o, none⟩).run Tryd.prog w = .ok (.agg #[.int .i64 h.s.t, .int .i64 h.s.c, .int .i64 h.v]) w :=
  run_loadVar_mid w g o 93 [.int .i64 h.s.t, .int .i64 h.s.c, .int .i64 h.v] _ (fun j y hy => by
    obtain ⟨h0, h1, h2⟩ := hh
    match j with
    | 0 => simp at hy; subst hy; exact h0
    | 1 => simp at hy; subst hy; exact h1
    | 2 => simp at hy; subst hy; exact h2
    | j + 3 => simp at hy) Tryd.underlying93 rfl sizeEn
theorem blkHd {w : World} {g : Nat} {t : TypeId} {h : Hd} (hb : w.heap[g]? = some (.cells #[.int .i64 h.s.t, .int .i64 h.s.c, .int .i64 h.v] t)) : HdAt w g 0 h :=
  ⟨by rw [cell_of_row _ _ _ _ t _ hb]; rfl, by rw [cell_of_row _ _ _ _ t _ hb]; rfl, by rw [cell_of_row _ _ _ _ t _ hb]; rfl⟩

set_option maxRecDepth 100000 in
theorem less_any (a b : Smp) (w : World) : Calls Tryd.prog 25 #[.agg #[.int .i64 a.t, .int .i64 a.c], .agg #[.int .i64 b.t, .int .i64 b.c]] w fun e w' => e = .returned (.bool (decide (a.lt b))) ∧ Below w.heap.size w w' := by
  have HB := hideIt (belA (belA (Below.refl _ w) (.cells #[.int .i64 a.t, .int .i64 a.c] 65)) (.cells #[.int .i64 b.t, .int .i64 b.c] 65))
  by_cases h : a.t = b.t
  · have h1 : (a.t != b.t) = false := by simp [h]
    have HE : Hid (decide (a.lt b) = decide (a.c < b.c)) := decide_eq_decide.2 (by unfold Smp.lt; omega)
    generalize decide (a.lt b) = r at HE ⊢
    clear h
    go_enter Tryd.func25, Tryd.ntmps25
    go_wp2
    go_ret
    exact ⟨ret_bool HE.out.symm, HB.out⟩
  · have h1 : (a.t != b.t) = true := by simp [h]
    have HE : Hid (decide (a.lt b) = decide (a.t < b.t)) := decide_eq_decide.2 (by unfold Smp.lt; omega)
    generalize decide (a.lt b) = r at HE ⊢
    clear h
    go_enter Tryd.func25, Tryd.ntmps25
    go_wp2
    go_ret
    exact ⟨ret_bool HE.out.symm, HB.out⟩

set_option maxRecDepth 100000 in
theorem unwr_any (w : World) : Calls Tryd.prog 38 #[] w fun e w' => e = .returned (.agg #[.int .i64 hd0.s.t, .int .i64 hd0.s.c, .int .i64 hd0.v]) ∧ Below w.heap.size w w' := by
  have hb := heap_alloc_new w (.cells #[.int .i64 0, .int .i64 0, .int .i64 0] 93)
  have HB : Hid (Below w.heap.size w (w.alloc (.cells #[.int .i64 0, .int .i64 (-1), .int .i64 0] 93))) := belA (Below.refl _ _) _
  have HN : Hid (HdAt (w.alloc (.cells #[.int .i64 0, .int .i64 (-1), .int .i64 0] 93)) w.heap.size 0 hd0) := blkHd (h := hd0) (heap_alloc_new w _)
  clear hb
  go_enter Tryd.func38, Tryd.ntmps38
  go_wp2
  exact bodyPost_ret (results_one rfl _ _ _ _ rfl (loadEn HN.out)) rfl ⟨rfl, HB.out⟩

/-- 17.1: Check. -/
def checkC (n k ask tell : Int) : Int := if n < 1 ∨ 7 < n ∨ k < 1 ∨ 8 < k then 4 else if ask < 1 ∨ n < ask ∨ tell < 1 ∨ n < tell then 2 else 0
set_option maxRecDepth 100000 in
set_option maxHeartbeats 4000000 in
theorem check_any (n k ask tell : Int) (back : Bool) (w : World) : Calls Tryd.prog 24 #[.agg #[.int .i64 n, .int .i64 k, .int .i64 ask, .int .i64 tell, .bool back]] w fun e w' => e = .returned (toldE (checkC n k ask tell)) ∧ Below w.heap.size w w' := by
  by_cases h0 : n < 1
  · have d0 : decide (n < 1) = true := decide_eq_true h0
    have HR : Hid (toldE (checkC n k ask tell) = .iface 29 (.int .i64 4)) := by
      show _ = _
      unfold checkC
      rw [if_pos (by omega)]
      rfl
    clear h0
    go_enter Tryd.func24, Tryd.ntmps24
    go_wp2
    go_ret
    exact ⟨by rw [HR.out]; rfl, belA (Below.refl _ _) _⟩
  have d0 : decide (n < 1) = false := decide_eq_false h0
  by_cases h1 : 7 < n
  · have d1 : decide (n > 7) = true := decide_eq_true h1
    have HR : Hid (toldE (checkC n k ask tell) = .iface 29 (.int .i64 4)) := by
      show _ = _
      unfold checkC
      rw [if_pos (by omega)]
      rfl
    clear h0 h1
    go_enter Tryd.func24, Tryd.ntmps24
    go_wp2
    go_ret
    exact ⟨by rw [HR.out]; rfl, belA (Below.refl _ _) _⟩
  have d1 : decide (n > 7) = false := decide_eq_false h1
  by_cases h2 : k < 1
  · have d2 : decide (k < 1) = true := decide_eq_true h2
    have HR : Hid (toldE (checkC n k ask tell) = .iface 29 (.int .i64 4)) := by
      show _ = _
      unfold checkC
      rw [if_pos (by omega)]
      rfl
    clear h0 h1 h2
    go_enter Tryd.func24, Tryd.ntmps24
    go_wp2
    go_ret
    exact ⟨by rw [HR.out]; rfl, belA (Below.refl _ _) _⟩
  have d2 : decide (k < 1) = false := decide_eq_false h2
  by_cases h3 : 8 < k
  · have d3 : decide (k > 8) = true := decide_eq_true h3
    have HR : Hid (toldE (checkC n k ask tell) = .iface 29 (.int .i64 4)) := by
      show _ = _
      unfold checkC
      rw [if_pos (by omega)]
      rfl
    clear h0 h1 h2 h3
    go_enter Tryd.func24, Tryd.ntmps24
    go_wp2
    go_ret
    exact ⟨by rw [HR.out]; rfl, belA (Below.refl _ _) _⟩
  have d3 : decide (k > 8) = false := decide_eq_false h3
  by_cases h4 : ask < 1
  · have d4 : decide (ask < 1) = true := decide_eq_true h4
    have HR : Hid (toldE (checkC n k ask tell) = .iface 29 (.int .i64 2)) := by
      show _ = _
      unfold checkC
      rw [if_neg (by omega), if_pos (by omega)]
      rfl
    clear h0 h1 h2 h3 h4
    go_enter Tryd.func24, Tryd.ntmps24
    go_wp2
    go_ret
    exact ⟨by rw [HR.out]; rfl, belA (Below.refl _ _) _⟩
  have d4 : decide (ask < 1) = false := decide_eq_false h4
  by_cases h5 : n < ask
  · have d5 : decide (ask > n) = true := decide_eq_true h5
    have HR : Hid (toldE (checkC n k ask tell) = .iface 29 (.int .i64 2)) := by
      show _ = _
      unfold checkC
      rw [if_neg (by omega), if_pos (by omega)]
      rfl
    clear h0 h1 h2 h3 h4 h5
    go_enter Tryd.func24, Tryd.ntmps24
    go_wp2
    go_ret
    exact ⟨by rw [HR.out]; rfl, belA (Below.refl _ _) _⟩
  have d5 : decide (ask > n) = false := decide_eq_false h5
  by_cases h6 : tell < 1
  · have d6 : decide (tell < 1) = true := decide_eq_true h6
    have HR : Hid (toldE (checkC n k ask tell) = .iface 29 (.int .i64 2)) := by
      show _ = _
      unfold checkC
      rw [if_neg (by omega), if_pos (by omega)]
      rfl
    clear h0 h1 h2 h3 h4 h5 h6
    go_enter Tryd.func24, Tryd.ntmps24
    go_wp2
    go_ret
    exact ⟨by rw [HR.out]; rfl, belA (Below.refl _ _) _⟩
  have d6 : decide (tell < 1) = false := decide_eq_false h6
  by_cases h7 : n < tell
  · have d7 : decide (tell > n) = true := decide_eq_true h7
    have HR : Hid (toldE (checkC n k ask tell) = .iface 29 (.int .i64 2)) := by
      show _ = _
      unfold checkC
      rw [if_neg (by omega), if_pos (by omega)]
      rfl
    clear h0 h1 h2 h3 h4 h5 h6 h7
    go_enter Tryd.func24, Tryd.ntmps24
    go_wp2
    go_ret
    exact ⟨by rw [HR.out]; rfl, belA (Below.refl _ _) _⟩
  have d7 : decide (tell > n) = false := decide_eq_false h7
  have HR : Hid (toldE (checkC n k ask tell) = .nilIface) := by
    show _ = _
    unfold checkC
    rw [if_neg (by omega), if_neg (by omega)]
    rfl
  clear h0 h1 h2 h3 h4 h5 h6 h7
  go_enter Tryd.func24, Tryd.ntmps24
  go_wp2
  go_ret
  exact ⟨by rw [HR.out]; rfl, belA (Below.refl _ _) _⟩
end Go.Proofs.YtggdjongbmdefaaDoor
