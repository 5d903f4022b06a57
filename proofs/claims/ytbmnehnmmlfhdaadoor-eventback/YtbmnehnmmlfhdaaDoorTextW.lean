/-
  What Text does: walked.
-/
import Derived.Test.YtbmnehnmmlfhdaaDoorLineW
namespace Go.Proofs.YtbmnehnmmlfhdaaDoor
open Go.RowKit

theorem builder_below {T t B b : Nat} {bs : List Value} {w w1 : World} (h : Lib.IsBuilder T t B b bs w) (hb : Below w.heap.size w w1) : Lib.IsBuilder T t B b bs w1 := by
  have k : ∀ p, Lib.BuilderAt T t B b p bs w → Lib.BuilderAt T t B b p bs w1 := by
    rintro p ⟨h1, v, h2, h3, h4⟩
    exact ⟨h1, v, (hb.block b (Array.getElem?_eq_some_iff.1 h2).1).trans h2, own_below h3 hb, h4⟩
  exact h.imp (k _) (k _)

theorem small_of_fault {e : Ev} (h : e.fault = 0) : SmallE e := by
  unfold Ev.fault faultN at h
  split at h
  · rename_i h1
    split at h
    · rename_i h2
      simp only [inB, eightB, numB, kindB, Bool.and_eq_true, decide_eq_true_eq] at h1 h2
      unfold SmallE NamedE
      omega
    · cases h
  · cases h

/-- What Text tells of events. -/
def TextTold (l : List Ev) (x : Ending) : Prop :=
  ((120 < l.length ∨ ∃ e ∈ l, e.fault ≠ 0) ∧ (x = .returned (.tuple #[.string ⟨#[]⟩, .iface 33 (.int .i64 4)]) ∨ ∃ g, x = .returned (.tuple #[.string ⟨#[]⟩, .iface 39 (.pointer (some ⟨g, 0, none⟩))]))) ∨
  (l.length ≤ 120 ∧ (∀ e ∈ l, e.fault = 0) ∧ x = .returned (.tuple #[.string ⟨(textB l).toArray⟩, .nilIface]))

theorem text_len (l : List Ev) (h : ∀ e ∈ l, e.fault = 0) : (textB l).length ≤ 59 * l.length := by
  induction l with
  | nil => simp [textB]
  | cons e l ih =>
    have h1 := line_len e (small_of_fault (h e (by simp)))
    have h2 := ih (fun x hx => h x (by simp [hx]))
    simp only [textB, List.flatMap_cons, List.length_append, List.length_cons, List.length_nil] at h2 ⊢
    omega
theorem textB_succ (l : List Ev) (k : Nat) (h : k < l.length) : textB (l.take (k + 1)) = textB (l.take k) ++ (lineB l[k] ++ [10]) := by
  unfold textB
  rw [List.take_succ_eq_append_getElem h, List.flatMap_append]
  simp

set_option maxHeartbeats 400000 in
theorem text_long (l : List Ev) (a : Option Addr) (cap : Nat) (w : World) (h : 120 < l.length) (h2 : l.length ≤ maxLen) :
    Calls Tryd.prog 4 #[.slice a l.length cap] w fun x w' => TextTold l x ∧ Below w.heap.size w w' := by
  unfold maxLen at h2
  go_enter Tryd.func4, Tryd.ntmps4
  go_wp2
  go_ret2
  exact ⟨.inl ⟨.inl h, .inl rfl⟩, Below.refl _ _⟩

set_option maxRecDepth 100000 in
set_option maxHeartbeats 4000000 in
theorem text_some (l : List Ev) (b off cap : Nat) (w : World) (hlen : l.length ≤ 120) (hl : EvsAt w b off l) (hb : b < w.heap.size) (hp : Pow w) (h9 : 2 ≤ w.heap.size) :
    Calls Tryd.prog 4 #[.slice (some ⟨b, off, none⟩) l.length cap] w fun x w' => TextTold l x ∧ Below w.heap.size w w' := by
  have HL := hideIt hl
  have HP := hideIt hp
  clear hl hp
  have h120 : decide (120 < (l.length : Int)) = false := by simp; omega
  go_enter Tryd.func4, Tryd.ntmps4
  go_wp2
  go_loopw [14] (fun i wr => ∃ k : Nat, k ≤ l.length ∧ i = .int .i64 k ∧ (∀ e ∈ l.take k, e.fault = 0) ∧ Lib.IsBuilder 37 5 w.heap.size w.heap.size (Lib.byteCells (textB (l.take k))) wr ∧ Below w.heap.size w wr) (fun i _ => l.length - (intOf i).toNat)
  case atStart => exact ⟨0, Nat.zero_le _, rfl, (by simp), Lib.fresh_isBuilder 37 5 w, belA (Below.refl _ _) _⟩
  case round =>
    obtain ⟨k, hk, rfl, hf, hh, hnx⟩ := hrel
    have HF0 := hideIt hf
    have HH := hideIt hh
    have HNX := hideIt hnx
    have hsz := hnx.size
    clear hf hh
    by_cases hkl : k < l.length
    · obtain ⟨e, HE⟩ : ∃ e, Hid (l[k] = e) := ⟨_, hideIt rfl⟩
      have hc := (HL.out k hkl).below hb hnx
      rw [HE.out] at hc
      obtain ⟨c0, c1, c2, c3, c4, c5, c6⟩ := hc
      have HF : Hid (∀ W, Calls Tryd.prog 7 #[.agg #[.int .i64 e.p, .int .i64 e.t, .int .i64 e.k, .int .i64 e.d, .int .i64 e.a, .int .i64 e.b, .int .i64 e.r]] W fun ev w' => ev = .returned (.int .i64 e.fault) ∧ w' = W.alloc (.cells #[.int .i64 e.p, .int .i64 e.t, .int .i64 e.k, .int .i64 e.d, .int .i64 e.a, .int .i64 e.b, .int .i64 e.r] 31)) := fun W => fault_any e.p e.t e.k e.d e.a e.b e.r W
      obtain ⟨n, HN⟩ : ∃ n, Hid (e.fault = n) := ⟨_, hideIt rfl⟩
      rw [HN.out] at HF
      clear hnx
      by_cases hz : n = 0
      · have hz' : (n != 0) = false := by simp [hz]
        have HE0 : Hid (e.fault = 0) := hideIt (HN.out.trans hz)
        clear hz
        have HLI := hideIt (fun (W : World) (hW : Below w.heap.size w W) => line_any e W (small_of_fault HE0.out) (HP.out.below hW h9) (Nat.le_trans h9 hW.size))
        unfold Ev.agg at HLI
        go_wp2_with fail
        refine (HF.out _).mono ?_
        rintro x w1 ⟨rfl, rfl⟩
        go_wp2_with fail
        have hW2 := belA (belA HNX.out (.cells #[.int .i64 e.p, .int .i64 e.t, .int .i64 e.k, .int .i64 e.d, .int .i64 e.a, .int .i64 e.b, .int .i64 e.r] 31)) (.cells #[.int .i64 e.p, .int .i64 e.t, .int .i64 e.k, .int .i64 e.d, .int .i64 e.a, .int .i64 e.b, .int .i64 e.r] 31)
        refine (HLI.out _ hW2).mono ?_
        rintro x w3 ⟨rfl, hb3⟩
        have hB3 := builder_below (builder_below HH.out (belA (belA (Below.refl _ _) _) _)) hb3
        have HB3 := hideIt hB3
        have HW3 := hideIt (belJ hW2 hb3)
        have HS := hideIt (sh_WriteString w.heap.size w.heap.size _ ⟨(lineB e).toArray⟩ w3 hB3 (by
          rw [Lib.byteCells_length]
          have h1 := text_len _ HF0.out
          have h2 := line_len e (small_of_fault HE0.out)
          have h3 : (l.take k).length = k := by simp; omega
          have h4 : (⟨(lineB e).toArray⟩ : ByteArray).size = (lineB e).length := by simp [ByteArray.size]
          omega) (belJ hW2 hb3).size)
        clear hW2 hb3 hB3
        go_wp2_with fail
        refine HS.out.mono ?_
        rintro x w4 ⟨rfl, hb4, hl4⟩
        have HW4 := hideIt (HW3.out.trans hl4)
        have HS2 := hideIt (sh_WriteByte w.heap.size w.heap.size _ 10 w4 (.inr hb4) (by
          rw [List.length_append, Lib.byteCells_length, Lib.strCells_length]
          have h1 := text_len _ HF0.out
          have h2 := line_len e (small_of_fault HE0.out)
          have h3 : (l.take k).length = k := by simp; omega
          have h4 : (⟨(lineB e).toArray⟩ : ByteArray).size = (lineB e).length := by simp [ByteArray.size]
          omega) HW4.out.size)
        clear hb4 hl4
        go_wp2_with fail
        refine HS2.out.mono ?_
        rintro x w5 ⟨rfl, hb5, hl5⟩
        have R1 : Hid (∀ e ∈ l.take (k + 1), e.fault = 0) := hideIt (fun y hy => by
          rw [List.take_succ_eq_append_getElem hkl, List.mem_append, List.mem_singleton] at hy
          rcases hy with hy | rfl
          · exact HF0.out y hy
          · rw [HE.out]; exact HE0.out)
        have R2 : Hid (Lib.IsBuilder 37 5 w.heap.size w.heap.size (Lib.byteCells (textB (l.take (k + 1)))) w5) := hideIt (by
          refine .inr ?_
          rw [textB_succ l k hkl, HE.out, Lib.byteCells_append, Lib.byteCells_append, ← List.append_assoc]
          exact hb5)
        have R3 := hideIt (HW4.out.trans hl5)
        clear hb5 hl5
        go_wp2
        go_roundw
        case rel => exact ⟨k + 1, by omega, by go_num, R1.out, R2.out, R3.out⟩
        case measure => simp [intOf]; omega
      · have hz' : (n != 0) = true := by simp [hz]
        have R1 : Hid (∃ e ∈ l, e.fault ≠ 0) := hideIt ⟨l[k], List.getElem_mem hkl, by rw [HE.out, HN.out]; exact hz⟩
        clear hz
        go_wp2_with fail
        refine (HF.out _).mono ?_
        rintro x w1 ⟨rfl, rfl⟩
        go_wp2
        go_ret2
        exact ⟨.inl ⟨.inr R1.out, .inr ⟨_, rfl⟩⟩, belA (belA (belA HNX.out _) _) _⟩
    · have HK : Hid (l.take k = l) := hideIt (List.take_of_length_le (by omega))
      have hfl := HF0.out
      rw [HK.out] at hfl HH
      have HFL := hideIt hfl
      have HC := hideIt (sh_Builder_String_any w.heap.size w.heap.size (textB l) wr HH.out hsz)
      clear hfl hnx
      go_wp2_with fail
      refine HC.out.mono ?_
      rintro x w1 ⟨rfl, hb1⟩
      have R3 := hideIt (HNX.out.trans hb1)
      clear hb1
      go_wp2
      go_ret2
      exact ⟨.inr ⟨hlen, HFL.out, rfl⟩, R3.out⟩

set_option maxHeartbeats 1000000 in
theorem text_none (a : Option Addr) (cap : Nat) (w : World) :
    Calls Tryd.prog 4 #[.slice a 0 cap] w fun x w' => TextTold [] x ∧ Below w.heap.size w w' := by
  go_enter Tryd.func4, Tryd.ntmps4
  go_wp2
  refine wp_loop_rounds 1 ?_
  rw [rounds_succ]
  go_wp2_with fail
  refine (sh_Builder_String_any w.heap.size w.heap.size [] _ (Lib.fresh_isBuilder 37 5 w) (by simp)).mono ?_
  rintro x w1 ⟨rfl, hb1⟩
  have R3 := hideIt ((belA (Below.refl w.heap.size w) _).trans hb1)
  clear hb1
  go_wp2
  go_ret2
  exact ⟨.inr ⟨by simp, by simp, rfl⟩, R3.out⟩

end Go.Proofs.YtbmnehnmmlfhdaaDoor
