/-
  The iterator over a text's lines: its contract at a text that Text has written.
-/
import Derived.Test.YtbmnehnmmlfhdaaDoorWordsX
import Derived.RangeFuncNested
import Derived.RangeFuncBound
import Derived.RangeFuncCalls
import Derived.RangeFuncLeaves
import Derived.Shelf.Abstract
import Derived.WalkKit
import Derived.OwnWalkIn
import Derived.TacticsInMore
import Derived.LoopNIn
import Derived.LoopIn
namespace Go.Proofs.YtbmnehnmmlfhdaaDoor
open Go.RowKit Go.Lib Go.Shelf
attribute [local go_sem] Oper.semAt_some

def placeAt (l : List Ev) (k : Nat) : Nat := (textB (l.take k)).length
def lineAt (l : List Ev) (k : Nat) : List UInt8 := match l[k]? with | some e => lineB e | none => []

theorem textB_split (l : List Ev) (k : Nat) : textB l = textB (l.take k) ++ textB (l.drop k) := by
  unfold textB
  rw [← List.flatMap_append, List.take_append_drop]
theorem drop_place (l : List Ev) (k : Nat) : (textB l).drop (placeAt l k) = textB (l.drop k) := by
  unfold placeAt
  conv => lhs; rw [textB_split l k]
  simp
theorem textB_drop (l : List Ev) (k : Nat) (h : k < l.length) : textB (l.drop k) = lineB l[k] ++ 10 :: textB (l.drop (k + 1)) := by
  rw [List.drop_eq_getElem_cons h]
  simp only [textB, List.flatMap_cons, List.append_assoc, List.singleton_append]
theorem cut_at (l : List Ev) (k : Nat) (hl : ∀ e ∈ l, e.fault = 0) (h : k < l.length) : Lib.cut (textB (l.drop k)) [10] = (lineAt l k, textB (l.drop (k + 1)), true) := by
  rw [textB_drop l k h, cut_line _ _ (fun c hc => (line_bytes (small_of_fault (hl _ (List.getElem_mem h))).1 c hc).1), lineAt, List.getElem?_eq_getElem h]
theorem place_succ (l : List Ev) (k : Nat) : (textB l).length - (textB (l.drop (k + 1))).length = placeAt l (k + 1) := by
  unfold placeAt
  conv => lhs; rw [textB_split l (k + 1)]
  simp
theorem textB_len_drop (l : List Ev) (k : Nat) : (textB (l.drop k)).length ≤ (textB l).length := by
  conv => rhs; rw [textB_split l k]
  simp
theorem place_le (l : List Ev) (k : Nat) : placeAt l k ≤ (textB l).length := by
  unfold placeAt
  conv => rhs; rw [textB_split l k]
  simp

theorem cut_end (l : List Ev) (k : Nat) (h : ¬ k < l.length) : Lib.cut (textB (l.drop k)) [10] = (lineAt l k, textB (l.drop (k + 1)), false) := by
  rw [List.drop_eq_nil_of_le (by omega), List.drop_eq_nil_of_le (by omega), lineAt, List.getElem?_eq_none (by omega)]
  exact cut_none
theorem extract_place (l : List Ev) (k : Nat) : (({ data := (textB l).toArray } : ByteArray).extract (placeAt l k) (textB l).length).data.toList = textB (l.drop k) := by
  rw [← drop_place l k]
  have : List.take ((textB l).length - placeAt l k) (List.drop (placeAt l k) (textB l)) = List.drop (placeAt l k) (textB l) := List.take_of_length_le (by simp)
  simpa [ByteArray.data_extract] using this
theorem range_pre (k n : Nat) (h : k ≤ n) : List.range k <+: List.range n := by
  have : List.range k = (List.range n).take k := by rw [List.take_range, Nat.min_eq_left h]
  rw [this]; exact List.take_prefix _ _
theorem cut_call (l : List Ev) (k : Nat) (hl : ∀ e ∈ l, e.fault = 0) (h120 : l.length ≤ 120) (m : Int) (w : World) (hm : w.cell? ⟨0, 0, none⟩ = some (.int .i64 m)) :
    Calls Tryd.prog 26 #[.string (({ data := (textB l).toArray } : ByteArray).extract (placeAt l k) (textB l).length), .string ⟨#[10]⟩] w fun e w' => e = .returned (.tuple #[.string ⟨(lineAt l k).toArray⟩, .string ⟨(textB (l.drop (k + 1))).toArray⟩, .bool (decide (k < l.length))]) ∧ ∃ n, w' = w.drewN n := by
  have h1 := sh_strings_Cut (({ data := (textB l).toArray } : ByteArray).extract (placeAt l k) (textB l).length) ⟨#[10]⟩ m w (by
    have h2 := text_len l hl
    have h3 : (({ data := (textB l).toArray } : ByteArray).extract (placeAt l k) (textB l).length).size ≤ (textB l).length := by
      simp [ByteArray.size, ByteArray.data_extract]
    omega) hm
  rw [extract_place] at h1
  by_cases h : k < l.length
  · rw [show (⟨#[10]⟩ : ByteArray).data.toList = [10] from rfl, cut_at l k hl h] at h1
    rw [decide_eq_true h]; exact h1
  · rw [show (⟨#[10]⟩ : ByteArray).data.toList = [10] from rfl, cut_end l k h] at h1
    rw [decide_eq_false h]; exact h1

/-- The rounds of a text's lines: numbers of lines, the last the empty text behind the last line. -/
abbrev Rd (l : List Ev) := { k : Nat // k ≤ l.length }
def encL (l : List Ev) (k : Rd l) : Array Value := #[.int .i64 (placeAt l k.1), .string ⟨(lineAt l k.1).toArray⟩]

theorem wrap_small {n : Int} (h0 : -1000000 ≤ n) (h1 : n ≤ 1000000) : IntKind.i64.wrap n = n := by
  rw [IntKind.wrap_i64]; omega
theorem pre_snoc {l : List Ev} {pre : List (Rd l)} {k : Nat} (hk : k ≤ l.length) (h : pre.map (·.1) = List.range k) : (pre ++ [(⟨k, hk⟩ : Rd l)]).map (fun x => x.1) = List.range (k + 1) := by
  rw [List.map_append, h, List.range_succ]; rfl
theorem place_lt (l : List Ev) (k : Nat) (h : k < l.length) : placeAt l k < placeAt l (k + 1) := by
  unfold placeAt
  rw [textB_succ l k h, List.length_append, List.length_append]
  simp

/-- What a round keeps: all that lay below n₀, and the box of the text. -/
def KeptL (n₀ Bt : Nat) (W W' : World) : Prop := Below n₀ W W' ∧ W'.heap[Bt]? = W.heap[Bt]?

set_option maxRecDepth 100000 in
set_option maxHeartbeats 4000000 in
theorem lines1_in (l : List Ev) (hl : ∀ e ∈ l, e.fault = 0) (h120 : l.length ≤ 120) (n : Nat) (hn : 1 ≤ n) (y Bt n₀ : Nat) (m : Int) (J Jx : List (Rd l) → World → Prop) (W : World) (hb2 : 0 < n₀)
    (hY : ∀ pre x W1, J pre W1 → pre.length < l.length + 1 → YieldAt Fence.wide (n - 1) Tryd.prog y (encL l x) W1 fun e W' =>
      (e = .returned (.bool true) ∧ J (pre ++ [x]) W' ∧ KeptL n₀ Bt W1 W') ∨ (e = .returned (.bool false) ∧ Jx (pre ++ [x]) W'))
    (hJ : AbidesFrom W.heap.size J) (hc : W.cell? ⟨Bt, 0, none⟩ = some (.string ⟨(textB l).toArray⟩)) (hm : W.cell? ⟨0, 0, none⟩ = some (.int .i64 m)) (h0 : J [] W) :
    CallsIn Fence.wide n Tryd.prog 25 #[.func (.yield y) #[] #[], .pointer (some ⟨Bt, 0, none⟩)] W fun e W' => (∃ v, e = .returned v) ∧
      ((∃ xs, xs.map (·.1) = List.range (l.length + 1) ∧ J xs W') ∨ (∃ pre, pre.map (·.1) <+: List.range (l.length + 1) ∧ Jx pre W')) := by
  have HL := hideIt hl
  have HY := hideIt hY
  have HJ := hideIt hJ
  clear hl hY hJ
  refine callsIn_of_wp Tryd.func25 rfl trivial ?_ rfl
  simp only [Tryd.ntmps25, List.size_toArray, List.length_cons, List.length_nil, Nat.reduceAdd, Nat.reduceSub, Array.replicate_succ, Array.replicate_zero, List.push_toArray, List.append_toArray, List.nil_append, List.cons_append]
  gi_wp2
  gi_loopw [3] (fun p wr => ∃ (k : Nat) (pre : List (Rd l)), k ≤ l.length ∧ p = .int .i64 (placeAt l k) ∧ pre.map (·.1) = List.range k ∧ wr.cell? ⟨Bt, 0, none⟩ = some (.string ⟨(textB l).toArray⟩) ∧ wr.cell? ⟨0, 0, none⟩ = some (.int .i64 m) ∧ J pre wr ∧ W.heap.size ≤ wr.heap.size)
    (fun p _ => (textB l).length + 1 - (intOf p).toNat)
  case atStart => exact ⟨0, [], Nat.zero_le _, rfl, rfl, hc, hm, h0, Nat.le_refl _⟩
  case round =>
    obtain ⟨k, pre, hk, rfl, hpre, hct, hmt, hJs, hsz⟩ := hrel
    have HPR := hideIt hpre
    have HJS := hideIt hJs
    have hplen : pre.length = k := by have := congrArg List.length hpre; simpa using this
    clear hJs hpre
    have hp1 : (placeAt l k : Int) ≤ ((textB l).length : Int) := by have := place_le l k; omega
    gi_wp2
    refine ⟨trivial, ?_⟩
    refine (callsIn_wide.2 (cut_call l k HL.out h120 m wr hmt)).mono ?_
    rintro e w2 ⟨rfl, q, rfl⟩
    have HJ2 := hideIt (HJ.out pre wr (wr.drewN q) none HJS.out ⟨rfl, rfl, rfl, Nat.le_refl _, fun _ _ _ => rfl⟩ (fun r e => by cases e))
    obtain ⟨fn, tmps, assign, body, hy, hR⟩ := HY.out pre ⟨k, hk⟩ (wr.drewN q) HJ2.out (by omega)
    dsimp only [encL] at hy
    have HR := hideIt hR
    clear hR
    by_cases hlt : k < l.length
    · simp only [decide_eq_true hlt]
      gi_wp2
      refine HR.out.mono ?_
      rintro e W3 (⟨rfl, hJ3, hk3⟩ | ⟨rfl, hJx3⟩)
      · have hct3 : W3.cell? ⟨Bt, 0, none⟩ = some (.string ⟨(textB l).toArray⟩) := (World.cell?_of_block (a := ⟨Bt, 0, none⟩) hk3.2).trans hct
        have hmt3 : W3.cell? ⟨0, 0, none⟩ = some (.int .i64 m) := (hk3.1.cell (p := ⟨0, 0, none⟩) hb2).trans hmt
        have HJ3 := hideIt hJ3
        have hsz3 : W.heap.size ≤ W3.heap.size := Nat.le_trans hsz hk3.1.size
        have hps := place_succ l k
        have hpl := textB_len_drop l (k + 1)
        have htl := text_len l HL.out
        have hpw : IntKind.i64.wrap (((textB l).length : Int) - ((textB (l.drop (k + 1))).length : Int)) = (placeAt l (k + 1) : Int) := by
          rw [← hps]
          have : ((((textB l).length - (textB (l.drop (k + 1))).length : Nat)) : Int) = ((textB l).length : Int) - ((textB (l.drop (k + 1))).length : Int) := by omega
          rw [this]
          exact wrap_small (by omega) (by omega)
        clear hJ3 hk3
        gi_wp2
        have hlt2 := place_lt l k hlt
        have hle2 := place_le l (k + 1)
        exact ⟨⟨k + 1, pre ++ [⟨k, hk⟩], by omega, rfl, pre_snoc hk HPR.out, hct3, hmt3, HJ3.out, hsz3⟩, by simp [intOf]; omega⟩
      · gi_wp2
        refine bodyPost_ret (results_none rfl _ _ _) rfl ?_
        exact ⟨⟨_, rfl⟩, .inr ⟨pre ++ [⟨k, hk⟩], by rw [pre_snoc hk HPR.out]; exact range_pre _ _ (by omega), hJx3⟩⟩
    · simp only [decide_eq_false hlt]
      gi_wp2
      refine HR.out.mono ?_
      rintro e W3 (⟨rfl, hJ3, hk3⟩ | ⟨rfl, hJx3⟩)
      · gi_wp2
        refine bodyPost_ret (results_none rfl _ _ _) rfl ?_
        exact ⟨⟨_, rfl⟩, .inl ⟨pre ++ [⟨k, hk⟩], (pre_snoc hk HPR.out).trans (congrArg List.range (by omega)), hJ3⟩⟩
      · gi_wp2
        refine bodyPost_ret (results_none rfl _ _ _) rfl ?_
        exact ⟨⟨_, rfl⟩, .inr ⟨pre ++ [⟨k, hk⟩], by rw [pre_snoc hk HPR.out]; exact range_pre _ _ (by omega), hJx3⟩⟩

theorem lines_stops (l : List Ev) (hl : ∀ e ∈ l, e.fault = 0) (h120 : l.length ≤ 120) (n : Nat) (hn : 1 ≤ n) (Bt n₀ : Nat) (m : Int) (w : World) (hb2 : 0 < n₀) (_hn₀ : n₀ ≤ w.heap.size)
    (hc : w.cell? ⟨Bt, 0, none⟩ = some (.string ⟨(textB l).toArray⟩)) (hBw : Bt < w.heap.size) (hm : w.cell? ⟨0, 0, none⟩ = some (.int .i64 m)) :
    SeqStopsK Fence.wide n Tryd.prog 25 #[.pointer (some ⟨Bt, 0, none⟩)] (encL l) (KeptL n₀ Bt) (fun xs => xs.map (fun x => x.1) = List.range (l.length + 1)) (fun pre => pre.map (fun x => x.1) <+: List.range (l.length + 1)) (l.length + 1) w :=
  fun y J Jx W hW hJ _ hY h0 => lines1_in l hl h120 n hn y Bt n₀ m J Jx W hb2 hY hJ ((hW.cell (p := ⟨Bt, 0, none⟩) hBw).trans hc) ((hW.cell (p := ⟨0, 0, none⟩) (by show 0 < w.heap.size; omega)).trans hm) h0

theorem keptL_t {n₀ Bt : Nat} {A B C : World} (h : KeptL n₀ Bt A B) (k : KeptL n₀ Bt B C) : KeptL n₀ Bt A C := ⟨h.1.trans k.1, k.2.trans h.2⟩
theorem keptL_b {n₀ Bt : Nat} {w : World} (hn : n₀ ≤ w.heap.size) (hB : Bt < w.heap.size) (W : World) (l : Nat) (o o' : Obj) (hl : w.heap.size ≤ l) (h : W.heap[l]? = some o) (h1 : o.isCells = false) (h2 : o.isWalk = false) : KeptL n₀ Bt W (W.putObj l o') :=
  ⟨belowK_b hn W l o o' hl h h1 h2, World.putObj_heap_other (by omega)⟩

theorem lines_call (s : ByteArray) (w : World) : Calls Tryd.prog 13 #[.string s] w fun e w' => e = .returned (.func (.func 25) #[] #[.pointer (some ⟨w.heap.size, 0, none⟩)]) ∧ w' = w.alloc (.cells #[.string s] 9) := by
  go_enter Tryd.func13, Tryd.ntmps13
  go_wp2
  go_ret
  exact ⟨rfl, rfl⟩

/-- The events that came with rounds. -/
def evsOf (l : List Ev) (pre : List (Rd l)) : List Ev := pre.filterMap fun x => l[x.1]?
theorem evsOf_len (l : List Ev) (pre : List (Rd l)) : (evsOf l pre).length ≤ pre.length := List.length_filterMap_le _ _
theorem filterMap_range (l : List Ev) : ∀ k, (List.range k).filterMap (fun i => l[i]?) = l.take k
  | 0 => by simp
  | k + 1 => by
    rw [List.range_succ, List.filterMap_append, filterMap_range l k, List.take_add_one]
    cases h : l[k]? <;> simp [List.filterMap, h]
theorem evsOf_eq (l : List Ev) (pre : List (Rd l)) (k : Nat) (h : pre.map (fun x => x.1) = List.range k) : evsOf l pre = l.take k := by
  rw [← filterMap_range, ← h, List.filterMap_map]; rfl

end Go.Proofs.YtbmnehnmmlfhdaaDoor
