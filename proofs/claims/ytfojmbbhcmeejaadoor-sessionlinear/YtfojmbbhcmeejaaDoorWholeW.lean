/-
  Package linear's ended, isWhole, isTimely: walked.
-/
import Derived.Test.YtfojmbbhcmeejaaDoorCheckW
namespace Go.Proofs.YtfojmbbhcmeejaaDoor
open Go.RowKit

def endK (ops : List Opn) (k : Nat) : List Nat := (List.range k).filter fun n => decide (0 ≤ (opN ops n).e)
theorem endK_yes {ops : List Opn} {k : Nat} (h : 0 ≤ (opN ops k).e) : endK ops (k + 1) = endK ops k ++ [k] := by simp [endK, List.range_succ, h]
theorem endK_no {ops : List Opn} {k : Nat} (h : ¬ 0 ≤ (opN ops k).e) : endK ops (k + 1) = endK ops k := by
  unfold endK
  rw [List.range_succ, List.filter_append]
  simp; omega
theorem endK_lt {ops : List Opn} {k m : Nat} (hk : k ≤ m) : ∀ n ∈ endK ops k, n < m := fun n h => by
  have := List.mem_range.1 (List.mem_filter.1 h).1; omega
theorem or_bits {m n : Nat} (hm : m < 18446744073709551616) (hn : n < 64) : bits .or .u64 (m : Int) ((2 ^ n : Nat) : Int) = ((m ||| 2 ^ n : Nat) : Int) := bits_or_u64_nat m (2 ^ n) hm (pow_lt64 hn)

theorem bit_call (n : Nat) (hn : n < 64) : ∃ p : Nat, p = 2 ^ n ∧ ∀ w, Calls Tryd.prog 81 #[.int .i64 n] w fun e w' => e = .returned (.int .u64 (p : Nat)) ∧ w' = w := ⟨2 ^ n, rfl, fun w => bit_any n w hn⟩

set_option maxRecDepth 100000 in
set_option maxHeartbeats 1000000 in
theorem ended_any (ops : List Opn) (v : Value) (w : World) (hlen : ops.length ≤ 60) (hl : OpsIn w v ops) :
    Calls Tryd.prog 67 #[v] w fun e w' => e = .returned (.int .u64 (maskN (endL ops))) ∧ Below w.heap.size w w' := by
  obtain ⟨a, cap, rfl, hc, hm, hops⟩ := hl
  have HOP : Hid (∀ n, (hn : n < ops.length) → ∃ b off, a = some ⟨b, off, none⟩ ∧ ∀ wr, Below w.heap.size w wr → OpAt wr b (off + n * 8) ops[n]) := fun n hn => by
    obtain h | ⟨b, off, e, hlt, hc⟩ := hops
    · subst h; simp at hn
    · exact ⟨b, off, e, fun wr hW => (hc n hn).below hlt hW⟩
  clear hops
  go_enter Tryd.func67, Tryd.ntmps67
  go_wp2
  go_loopw [3, 8] (fun s i wr => ∃ k : Nat, k ≤ ops.length ∧ i = .int .i64 k ∧ s = .int .u64 (maskN (endK ops k)) ∧ Below w.heap.size w wr) (fun _ i _ => ops.length - (intOf i).toNat)
  case atStart => exact ⟨0, by omega, rfl, rfl, Below.refl _ _⟩
  case round =>
    obtain ⟨k, hk, rfl, rfl, hb⟩ := hrel
    have HB := hideIt hb
    clear hb
    by_cases hkl : k < ops.length
    · obtain ⟨b, offo, rfl, hop⟩ := HOP.out k hkl
      obtain ⟨d0, d1, d2, d3, d4, d5, d6, d7⟩ := hop _ HB.out
      clear hop
      have k1 : (0 : Int) ≤ (k : Int) := by omega
      have k2 : (k : Int) < (ops.length : Int) := by omega
      have hml : maskN (endK ops k) < 18446744073709551616 := maskN_lt (endK_lt (by omega))
      have HE := hideIt (opN_at hkl)
      by_cases he : 0 ≤ ops[k].e
      · have he' : decide (0 ≤ ops[k].e) = true := by simpa using he
        obtain ⟨p, hp, hcall⟩ := bit_call k (by omega)
        have R1 : Hid (bits .or .u64 (maskN (endK ops k) : Int) (p : Int) = (maskN (endK ops (k + 1)) : Int)) := hideIt (by
          rw [hp, or_bits hml (by omega), endK_yes (by rw [HE.out]; exact he), ← or_bit])
        have HC := hideIt hcall
        have HB2 := hideIt (belA HB.out ops[k].obj)
        unfold Opn.obj at HB2
        clear hp hcall hml
        go_wp2_with (go_at_call 81; refine (HC.out _).mono ?_; rintro e w' ⟨rfl, rfl⟩)
        go_roundw
        case rel => exact ⟨k + 1, by omega, by go_num, by rw [R1.out], HB2.out⟩
        case measure => simp [intOf]; omega
      · have he' : decide (0 ≤ ops[k].e) = false := by simpa using he
        have R1 : Hid (endK ops (k + 1) = endK ops k) := hideIt (endK_no (by rw [HE.out]; exact he))
        have HB2 := hideIt (belA HB.out ops[k].obj)
        unfold Opn.obj at HB2
        clear hml
        go_wp2
        go_roundw
        case rel => exact ⟨k + 1, by omega, by go_num, by rw [R1.out], HB2.out⟩
        case measure => simp [intOf]; omega
    · have HE : Hid (endK ops k = endL ops) := by
        have : k = ops.length := by omega
        subst this; rfl
      go_wp2
      go_ret
      exact ⟨ret_int (by rw [HE.out]), HB.out⟩

/-- Whether something holds is told. -/
def BoolTold (P : Prop) (w : World) (e : Ending) (w' : World) : Prop := ∃ b, e = .returned (.bool b) ∧ (b = true ↔ P) ∧ Below w.heap.size w w'
theorem toldNo {P : Prop} {w w' : World} (h : ¬ P) (hb : Below w.heap.size w w') : BoolTold P w (.returned (.bool false)) w' := ⟨false, rfl, ⟨fun e => (by cases e), fun e => absurd e h⟩, hb⟩
theorem toldYes {P : Prop} {w w' : World} (h : P) (hb : Below w.heap.size w w') : BoolTold P w (.returned (.bool true)) w' := ⟨true, rfl, ⟨fun _ => h, fun _ => rfl⟩, hb⟩

def natL (l : List Int) : List Nat := l.map Int.toNat
def OkTo (ops : List Opn) (l : List Int) : Prop := (∀ n ∈ l, 0 ≤ n ∧ n < (ops.length : Int)) ∧ l.Nodup
structure WholeP (ops : List Opn) (ord : List Int) : Prop where
  ok : OkTo ops ord
  whole : ∀ n, n < ops.length → 0 ≤ (opN ops n).e → (n : Int) ∈ ord

theorem natL_mem {ops : List Opn} {l : List Int} (h : OkTo ops l) (n : Nat) : n ∈ natL l ↔ (n : Int) ∈ l := by
  constructor
  · intro hm
    obtain ⟨x, hx, e⟩ := List.mem_map.1 hm
    have := h.1 x hx
    have : (n : Int) = x := by omega
    rw [this]; exact hx
  · intro hm
    exact List.mem_map.2 ⟨_, hm, by simp⟩
theorem natL_lt {ops : List Opn} {l : List Int} (h : OkTo ops l) : ∀ n ∈ natL l, n < ops.length := fun n hn => by
  have := h.1 _ ((natL_mem h n).1 hn); omega
theorem okTo_nil (ops : List Opn) : OkTo ops [] := ⟨by simp, by simp⟩
theorem OkTo.snoc {ops : List Opn} {l : List Int} {n : Nat} (h : OkTo ops l) (hn : n < ops.length) (hm : n ∉ natL l) : OkTo ops (l ++ [(n : Int)]) := by
  have hm' : (n : Int) ∉ l := fun e => hm ((natL_mem h n).2 e)
  refine ⟨fun x hx => ?_, List.nodup_append.2 ⟨h.2, by simp, fun a ha b hb e => ?_⟩⟩
  · rcases List.mem_append.1 hx with hx | hx
    · exact h.1 x hx
    · rw [List.mem_singleton.1 hx]; omega
  · rw [List.mem_singleton.1 hb] at e
    exact hm' (e ▸ ha)
theorem natL_snoc (l : List Int) (n : Nat) : natL (l ++ [(n : Int)]) = natL l ++ [n] := by simp [natL]
theorem okTo_take {ops : List Opn} {l : List Int} (h : OkTo ops l) (k : Nat) : OkTo ops (l.take k) := ⟨fun n hn => h.1 n (List.mem_of_mem_take hn), h.2.sublist (List.take_sublist k l)⟩
theorem take_snoc {α : Type} (l : List α) (k : Nat) (h : k < l.length) : l.take (k + 1) = l.take k ++ [l[k]] := List.take_succ_eq_append_getElem h

theorem whole_covers {ops : List Opn} {ord : List Int} (h : OkTo ops ord) (hlen : ops.length ≤ 60) : coversN (maskN (natL ord)) (maskN (endL ops)) = true ↔ WholeP ops ord := by
  rw [coversN_mask (fun n hn => by have := natL_lt h n hn; omega) (fun n hn => by have := endL_lt n hn; omega), List.all_eq_true]
  constructor
  · intro hall
    refine ⟨h, fun n hn he => ?_⟩
    have := hall n (List.mem_filter.2 ⟨List.mem_range.2 hn, by simpa using he⟩)
    exact (natL_mem h n).1 (by simpa using this)
  · intro hw n hn
    have h1 := List.mem_filter.1 hn
    have := hw.whole n (List.mem_range.1 h1.1) (by simpa using h1.2)
    simpa using (natL_mem h n).2 this

end Go.Proofs.YtfojmbbhcmeejaaDoor
