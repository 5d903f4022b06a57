/-
  Package linear's ended, isWhole, isTimely: walked.
-/
import Derived.Test.YtndogemgjjgbgabDoorCheckW
namespace Go.Proofs.YtndogemgjjgbgabDoor
open Go.RowKit

def endK (ops : List Opn) (k : Nat) : List Nat := (List.range k).filter fun n => decide (0 ≤ (opN ops n).e)
theorem endK_yes {ops : List Opn} {k : Nat} (h : 0 ≤ (opN ops k).e) : endK ops (k + 1) = endK ops k ++ [k] := by simp [endK, List.range_succ, h]
theorem endK_no {ops : List Opn} {k : Nat} (h : ¬ 0 ≤ (opN ops k).e) : endK ops (k + 1) = endK ops k := by
  unfold endK
  rw [List.range_succ, List.filter_append]
  simp; omega
theorem endK_lt {ops : List Opn} {k m : Nat} (hk : k ≤ m) : ∀ n ∈ endK ops k, n < m := fun n h => by
  have := List.mem_range.1 (List.mem_filter.1 h).1; omega
theorem or_bits {m n : Nat} (hm : m < 18446744073709551616) (hn : n < 64) : bits .or .u64 (m : Int) ((2 ^ n : Nat) : Int) = ((m ||| 2 ^ n : Nat) : Int) := bits_or_u64_nat m (2 ^ n) hm (pow_lt64 hn)

theorem bit_call (n : Nat) (hn : n < 64) : ∃ p : Nat, p = 2 ^ n ∧ ∀ w, Calls Tryd.prog 34 #[.int .i64 n] w fun e w' => e = .returned (.int .u64 (p : Nat)) ∧ w' = w := ⟨2 ^ n, rfl, fun w => bit_any n w hn⟩

set_option maxRecDepth 100000 in
set_option maxHeartbeats 1000000 in
theorem ended_any (ops : List Opn) (v : Value) (w : World) (hlen : ops.length ≤ 60) (hl : OpsIn w v ops) :
    Calls Tryd.prog 36 #[v] w fun e w' => e = .returned (.int .u64 (maskN (endL ops))) ∧ Below w.heap.size w w' := by
  obtain ⟨a, cap, rfl, hc, hm, hops⟩ := hl
  have HOP : Hid (∀ n, (hn : n < ops.length) → ∃ b off, a = some ⟨b, off, none⟩ ∧ ∀ wr, Below w.heap.size w wr → OpAt wr b (off + n * 8) ops[n]) := fun n hn => by
    obtain h | ⟨b, off, e, hlt, hc⟩ := hops
    · subst h; simp at hn
    · exact ⟨b, off, e, fun wr hW => (hc n hn).below hlt hW⟩
  clear hops
  go_enter Tryd.func36, Tryd.ntmps36
  go_wp2
  go_loopw [3, 8] (fun s i wr => ∃ k : Nat, k ≤ ops.length ∧ i = .int .i64 k ∧ s = .int .u64 (maskN (endK ops k)) ∧ Below w.heap.size w wr) (fun _ i _ => ops.length - (intOf i).toNat)
  case atStart => exact ⟨0, by omega, rfl, rfl, Below.refl _ _⟩
  case round =>
    obtain ⟨k, hk, rfl, rfl, hb⟩ := hrel
    have HB := hideIt hb
    clear hb
    by_cases hkl : k < ops.length
    · obtain ⟨b, offo, rfl, hop⟩ := HOP.out k hkl
      obtain ⟨d0, d1, d2, d3, d4, d5, d6, d7⟩ := hop _ HB.out
      clear hop
      have k1 : (0 : Int) ≤ (k : Int) := by omega
      have k2 : (k : Int) < (ops.length : Int) := by omega
      have hml : maskN (endK ops k) < 18446744073709551616 := maskN_lt (endK_lt (by omega))
      have HE := hideIt (opN_at hkl)
      by_cases he : 0 ≤ ops[k].e
      · have he' : decide (0 ≤ ops[k].e) = true := by simpa using he
        obtain ⟨p, hp, hcall⟩ := bit_call k (by omega)
        have R1 : Hid (bits .or .u64 (maskN (endK ops k) : Int) (p : Int) = (maskN (endK ops (k + 1)) : Int)) := hideIt (by
          rw [hp, or_bits hml (by omega), endK_yes (by rw [HE.out]; exact he), ← or_bit])
        have HC := hideIt hcall
        have HB2 := hideIt (belA HB.out ops[k].obj)
        unfold Opn.obj at HB2
        clear hp hcall hml
        go_wp2_with (go_at_call 34; refine (HC.out _).mono ?_; rintro e w' ⟨rfl, rfl⟩)
        go_roundw
        case rel => exact ⟨k + 1, by omega, by go_num, by rw [R1.out], HB2.out⟩
        case measure => simp [intOf]; omega
      · have he' : decide (0 ≤ ops[k].e) = false := by simpa using he
        have R1 : Hid (endK ops (k + 1) = endK ops k) := hideIt (endK_no (by rw [HE.out]; exact he))
        have HB2 := hideIt (belA HB.out ops[k].obj)
        unfold Opn.obj at HB2
        clear hml
        go_wp2
        go_roundw
        case rel => exact ⟨k + 1, by omega, by go_num, by rw [R1.out], HB2.out⟩
        case measure => simp [intOf]; omega
    · have HE : Hid (endK ops k = endL ops) := by
        have : k = ops.length := by omega
        subst this; rfl
      go_wp2
      go_ret
      exact ⟨ret_int (by rw [HE.out]), HB.out⟩

/-- Whether something holds is told. -/
def BoolTold (P : Prop) (w : World) (e : Ending) (w' : World) : Prop := ∃ b, e = .returned (.bool b) ∧ (b = true ↔ P) ∧ Below w.heap.size w w'
theorem toldNo {P : Prop} {w w' : World} (h : ¬ P) (hb : Below w.heap.size w w') : BoolTold P w (.returned (.bool false)) w' := ⟨false, rfl, ⟨fun e => (by cases e), fun e => absurd e h⟩, hb⟩
theorem toldYes {P : Prop} {w w' : World} (h : P) (hb : Below w.heap.size w w') : BoolTold P w (.returned (.bool true)) w' := ⟨true, rfl, ⟨fun _ => h, fun _ => rfl⟩, hb⟩

def natL (l : List Int) : List Nat := l.map Int.toNat
def OkTo (ops : List Opn) (l : List Int) : Prop := (∀ n ∈ l, 0 ≤ n ∧ n < (ops.length : Int)) ∧ l.Nodup
structure WholeP (ops : List Opn) (ord : List Int) : Prop where
  ok : OkTo ops ord
  whole : ∀ n, n < ops.length → 0 ≤ (opN ops n).e → (n : Int) ∈ ord

theorem natL_mem {ops : List Opn} {l : List Int} (h : OkTo ops l) (n : Nat) : n ∈ natL l ↔ (n : Int) ∈ l := by
  constructor
  · intro hm
    obtain ⟨x, hx, e⟩ := List.mem_map.1 hm
    have := h.1 x hx
    have : (n : Int) = x := by omega
    rw [this]; exact hx
  · intro hm
    exact List.mem_map.2 ⟨_, hm, by simp⟩
theorem natL_lt {ops : List Opn} {l : List Int} (h : OkTo ops l) : ∀ n ∈ natL l, n < ops.length := fun n hn => by
  have := h.1 _ ((natL_mem h n).1 hn); omega
theorem okTo_nil (ops : List Opn) : OkTo ops [] := ⟨by simp, by simp⟩
theorem OkTo.snoc {ops : List Opn} {l : List Int} {n : Nat} (h : OkTo ops l) (hn : n < ops.length) (hm : n ∉ natL l) : OkTo ops (l ++ [(n : Int)]) := by
  have hm' : (n : Int) ∉ l := fun e => hm ((natL_mem h n).2 e)
  refine ⟨fun x hx => ?_, List.nodup_append.2 ⟨h.2, by simp, fun a ha b hb e => ?_⟩⟩
  · rcases List.mem_append.1 hx with hx | hx
    · exact h.1 x hx
    · rw [List.mem_singleton.1 hx]; omega
  · rw [List.mem_singleton.1 hb] at e
    exact hm' (e ▸ ha)
theorem natL_snoc (l : List Int) (n : Nat) : natL (l ++ [(n : Int)]) = natL l ++ [n] := by simp [natL]
theorem okTo_take {ops : List Opn} {l : List Int} (h : OkTo ops l) (k : Nat) : OkTo ops (l.take k) := ⟨fun n hn => h.1 n (List.mem_of_mem_take hn), h.2.sublist (List.take_sublist k l)⟩
theorem take_snoc {α : Type} (l : List α) (k : Nat) (h : k < l.length) : l.take (k + 1) = l.take k ++ [l[k]] := List.take_succ_eq_append_getElem h

theorem whole_covers {ops : List Opn} {ord : List Int} (h : OkTo ops ord) (hlen : ops.length ≤ 60) : coversN (maskN (natL ord)) (maskN (endL ops)) = true ↔ WholeP ops ord := by
  rw [coversN_mask (fun n hn => by have := natL_lt h n hn; omega) (fun n hn => by have := endL_lt n hn; omega), List.all_eq_true]
  constructor
  · intro hall
    refine ⟨h, fun n hn he => ?_⟩
    have := hall n (List.mem_filter.2 ⟨List.mem_range.2 hn, by simpa using he⟩)
    exact (natL_mem h n).1 (by simpa using this)
  · intro hw n hn
    have h1 := List.mem_filter.1 hn
    have := hw.whole n (List.mem_range.1 h1.1) (by simpa using h1.2)
    simpa using (natL_mem h n).2 this

set_option maxRecDepth 100000 in
set_option maxHeartbeats 1000000 in
theorem isWhole_any (ops : List Opn) (ord : List Int) (u v : Value) (w : World) (hlen : ops.length ≤ 60) (hl : OpsIn w u ops) (hv : HasInts w v ord) :
    Calls Tryd.prog 18 #[u, v] w fun e w' => BoolTold (WholeP ops ord) w e w' := by
  have HE := hideIt (ended_any ops u w hlen hl)
  obtain ⟨a, cap, rfl, hc, hm, _⟩ := hl
  obtain ⟨a', cap', rfl, hm1, hm2, _, hv⟩ := hv
  unfold maxLen at hm2
  have HV : Hid (∀ j, (hj : j < ord.length) → ∃ b off, a' = some ⟨b, off, none⟩ ∧ w.cell? ⟨b, off + j, none⟩ = some (.int .i64 ord[j])) := fun j hj => by
    obtain h | ⟨b, off, e, hc⟩ := hv
    · subst h; simp at hj
    · exact ⟨b, off, e, hc j hj⟩
  clear hv
  go_enter Tryd.func18, Tryd.ntmps18
  go_wp2
  go_loop [5, 10] (fun s i => ∃ k : Nat, k ≤ ord.length ∧ i = .int .i64 k ∧ s = .int .u64 (maskN (natL (ord.take k))) ∧ OkTo ops (ord.take k)) (fun _ i => ord.length - (intOf i).toNat)
  case atStart => exact ⟨0, by omega, rfl, rfl, okTo_nil _⟩
  case round =>
    obtain ⟨k, hk, rfl, rfl, hok⟩ := hrel
    have HOK := hideIt hok
    clear hok
    by_cases hkl : k < ord.length
    · obtain ⟨b, off, rfl, hcell⟩ := HV.out k hkl
      have HT := hideIt (take_snoc ord k hkl)
      have HM := hideIt (List.getElem_mem hkl)
      have HN : Hid (ord[k] ∈ ord.take k → ¬ ord.Nodup) := hideIt (fun hmem hnd => by
        obtain ⟨i, hi, e⟩ := List.getElem_of_mem hmem
        have hi' : i < k := by simp at hi; omega
        rw [List.getElem_take] at e
        exact (List.pairwise_iff_getElem.1 hnd) i k (by omega) hkl hi' e)
      generalize ord[k] = n at hcell HT HM HN
      by_cases h1 : n < 0
      · have h1' : decide (n < 0) = true := by simpa using h1
        go_wp2
        go_ret
        exact toldNo (fun h => absurd (h.ok.1 _ HM.out).1 (by omega)) (Below.refl _ _)
      · have h1' : decide (n < 0) = false := by simpa using h1
        by_cases h2 : (ops.length : Int) ≤ n
        · have h2' : decide ((ops.length : Int) ≤ n) = true := by simpa using h2
          go_wp2
          go_ret
          exact toldNo (fun h => absurd (h.ok.1 _ HM.out).2 (by omega)) (Below.refl _ _)
        · have h2' : decide ((ops.length : Int) ≤ n) = false := by simpa using h2
          obtain ⟨n, rfl⟩ : ∃ m : Nat, n = m := ⟨n.toNat, by omega⟩
          have hml : maskN (natL (ord.take k)) < 18446744073709551616 := maskN_lt (fun m hm => by have := natL_lt HOK.out m hm; omega)
          have hH : Hid (∀ W, Calls Tryd.prog 33 #[.int .u64 (maskN (natL (ord.take k))), .int .i64 n] W fun e w' => e = .returned (.bool ((natL (ord.take k)).contains n)) ∧ w' = W) := hideIt (fun W => by
            rw [← maskN_bit]; exact has_any _ n W hml (by omega))
          cases hc : (natL (ord.take k)).contains n
          · rw [hc] at hH
            have R2 : Hid (OkTo ops (ord.take (k + 1))) := hideIt (by rw [HT.out]; exact HOK.out.snoc (by omega) (by simpa using hc))
            obtain ⟨p, hp, hcall⟩ := bit_call n (by omega)
            have R1 : Hid (bits .or .u64 (maskN (natL (ord.take k)) : Int) (p : Int) = (maskN (natL (ord.take (k + 1))) : Int)) := hideIt (by
              rw [hp, or_bits hml (by omega), HT.out, natL_snoc, or_bit])
            have HC := hideIt hcall
            clear hp hcall hml hc
            go_wp2_with (first | (go_at_call 34; refine (HC.out _).mono ?_; rintro e w' ⟨rfl, rfl⟩) | (go_at_call 33; refine (hH.out _).mono ?_; rintro e w' ⟨rfl, rfl⟩))
            go_round
            case rel => exact ⟨k + 1, by omega, by go_num, by rw [R1.out], R2.out⟩
            case measure => simp [intOf]; omega
          · rw [hc] at hH
            have R2 : Hid (¬ WholeP ops ord) := hideIt (fun h => HN.out ((natL_mem HOK.out n).1 (by simpa using hc)) h.ok.2)
            clear hml hc
            go_wp2_with (go_at_call 33; refine (hH.out _).mono ?_; rintro e w' ⟨rfl, rfl⟩)
            go_ret
            exact toldNo R2.out (Below.refl _ _)
    · have HK : Hid (OkTo ops ord ∧ ord.take k = ord) := hideIt (by
        have : ord.take k = ord := List.take_of_length_le (by omega)
        exact ⟨this ▸ HOK.out, this⟩)
      have HC : Hid (∀ W, Calls Tryd.prog 35 #[.int .u64 (maskN (natL (ord.take k))), .int .u64 (maskN (endL ops))] W fun e w' => e = .returned (.bool (coversN (maskN (natL ord)) (maskN (endL ops)))) ∧ w' = W) := hideIt (fun W => by
        rw [HK.out.2]
        exact covers_any _ _ W (maskN_lt (fun m hm => by have := natL_lt HK.out.1 m hm; omega)) (maskN_lt (fun m hm => by have := endL_lt m hm; omega)))
      have HR := hideIt (whole_covers HK.out.1 hlen)
      generalize coversN (maskN (natL ord)) (maskN (endL ops)) = b at HC HR
      go_wp2_with (first | (go_at_call 36; refine HE.out.mono ?_; rintro e w1 ⟨rfl, hb1⟩; have HB1 := hideIt hb1; clear hb1) | (go_at_call 35; refine (HC.out _).mono ?_; rintro e w' ⟨rfl, rfl⟩))
      go_ret
      exact ⟨b, rfl, HR.out, HB1.out⟩

end Go.Proofs.YtndogemgjjgbgabDoor
