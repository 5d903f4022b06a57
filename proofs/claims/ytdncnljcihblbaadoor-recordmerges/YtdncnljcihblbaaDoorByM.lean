/-
  Bytes in memory.
-/
import Derived.Test.YtdncnljcihblbaaDoorProg
import Derived.Test.YtdncnljcihblbaaDoorRcQ
import Derived.WalkKit
import Derived.WalkSpells
import Derived.WalkLawsBesides
import Derived.Laws.OwnMore
import Derived.Laws.AppendOwnNone
import Derived.Lib.Bytes
import Derived.Deep.QuietTactic
import Derived.BigQuiet
namespace Go.Proofs.YtdncnljcihblbaaDoor
open Go.RowKit

/-- Bytes, from a place on. -/
def BysAt (w : World) (b o : Nat) (l : List Nat) : Prop := ∀ i, (h : i < l.length) → w.cell? ⟨b, o + i, none⟩ = some (.int .u8 (l[i] : Nat))
/-- Bytes as cells. -/
def byCs (l : List Nat) : List Value := l.map fun x => .int .u8 (x : Nat)
/-- A slice of bytes that can be read: empty (nil or not), or bytes from a place on. -/
def ByQ (w : World) (v : Value) (l : List Nat) : Prop :=
  Byt l ∧ ((l = [] ∧ ∃ a c, v = .slice a 0 c ∧ (a = none → c = 0)) ∨ ∃ b o c, v = .slice (some ⟨b, o, none⟩) l.length c ∧ l.length ≤ c ∧ b < w.heap.size ∧ BysAt w b o l)

theorem BysAt.below {w w' : World} {B b o : Nat} {l : List Nat} (h : BysAt w b o l) (hb : b < B) (hn : Below B w w') : BysAt w' b o l := fun i hi => (hn.cell (p := ⟨b, o + i, none⟩) hb).trans (h i hi)
theorem BysAt.take {w : World} {b o : Nat} {l : List Nat} (h : BysAt w b o l) (n : Nat) : BysAt w b o (l.take n) := fun i hi => by
  have hi' : i < l.length := by simp at hi; omega
  rw [List.getElem_take]; exact h i hi'
theorem BysAt.drop {w : World} {b o : Nat} {l : List Nat} (h : BysAt w b o l) (n : Nat) : BysAt w b (o + n) (l.drop n) := fun i hi => by
  have hi' : n + i < l.length := by simp at hi; omega
  rw [List.getElem_drop, Nat.add_assoc]; exact h (n + i) hi'
theorem ByQ.below {w w' : World} {v : Value} {l : List Nat} (h : ByQ w v l) (hn : Below w.heap.size w w') : ByQ w' v l := by
  obtain ⟨h1, h2 | ⟨b, o, c, h3, h4, h5, h6⟩⟩ := h
  · exact ⟨h1, Or.inl h2⟩
  · exact ⟨h1, Or.inr ⟨b, o, c, h3, h4, Nat.lt_of_lt_of_le h5 hn.size, h6.below h5 hn⟩⟩
theorem byCs_len (l : List Nat) : (byCs l).length = l.length := by simp [byCs]
theorem byCs_append (l m : List Nat) : byCs (l ++ m) = byCs l ++ byCs m := by simp [byCs]
theorem byCs_one {l : List Nat} : ∀ u ∈ byCs l, u.oneCell' = true := by
  intro u hu
  obtain ⟨x, _, rfl⟩ := List.mem_map.1 hu
  rfl
theorem BysAt.cells {w : World} {b o : Nat} {l : List Nat} (h : BysAt w b o l) : ∀ j u, (byCs l)[j]? = some u → w.cell? ((⟨b, o, none⟩ : Addr).add j) = some u := by
  intro j u hj
  have hj' : j < l.length := by
    rcases Nat.lt_or_ge j l.length with h | h
    · exact h
    · rw [List.getElem?_eq_none (by rw [byCs_len]; exact h)] at hj; cases hj
  simp [byCs, List.getElem?_eq_getElem hj'] at hj
  subst hj
  rw [Addr.add_lit]
  exact h j hj'
/-- Bytes of one's own can be read. -/
theorem own_bys {w : World} {base g cap : Nat} {l : List Nat} (h : w.ownsRow base 5 1 (.slice (some ⟨g, 0, none⟩) l.length cap) l.length (byCs l)) : BysAt w g 0 l := by
  intro i hi
  rw [Nat.zero_add, h.cellAt i (by omega)]
  simp [byCs, List.getElem?_eq_getElem hi]
theorem own_byq {w : World} {base : Nat} {v : Value} {l : List Nat} (hb : Byt l) (h : w.ownsRow base 5 1 v l.length (byCs l)) : ByQ w v l := by
  refine ⟨hb, ?_⟩
  obtain ⟨h1, ⟨rfl, h2⟩ | ⟨g, cap, cur, rfl, h3, h4, h5, h6, h7, h8⟩⟩ := id h
  · exact Or.inl ⟨List.eq_nil_of_length_eq_zero h2, none, 0, rfl, fun _ => rfl⟩
  · exact Or.inr ⟨g, 0, cap, rfl, h5, (Array.getElem?_eq_some_iff.1 h4).1, own_bys h⟩

theorem infoB : (Tryd.prog.info? 5).map (fun i => (i.zero, i.size, i.bytes)) = some (some (.int .u8 0), 1, 1) := by kernel_rfl

/-- Bytes as a text. -/
def strB (l : List Nat) : ByteArray := strOfNums (l.map fun x : Nat => (x : Int))
theorem strB_inj {l m : List Nat} (hl : Byt l) (hm : Byt m) (h : strB l = strB m) : l = m := by
  have h1 : (strB l).data.toList = (strB m).data.toList := by rw [h]
  unfold strB at h1
  rw [strOfNums_data, strOfNums_data, List.map_map, List.map_map] at h1
  have hlen : l.length = m.length := by have := congrArg List.length h1; simpa using this
  refine List.ext_getElem hlen fun i h2 h3 => ?_
  have h4 : (l.map ((fun n : Int => UInt8.ofNat n.toNat) ∘ fun x : Nat => (x : Int)))[i]? = (m.map ((fun n : Int => UInt8.ofNat n.toNat) ∘ fun x : Nat => (x : Int)))[i]? := by rw [h1]
  simp [List.getElem?_map, List.getElem?_eq_getElem h2, List.getElem?_eq_getElem h3] at h4
  have h5 := congrArg UInt8.toNat h4
  have b1 := hl.at h2; have b2 := hm.at h3
  simp at h5
  omega
theorem bytesOf_beq {l m : List Nat} (hl : Byt l) (hm : Byt m) : (Lib.bytesOf (l.map fun x : Nat => (x : Int)) == Lib.bytesOf (m.map fun x : Nat => (x : Int))) = decide (l = m) := by
  rw [Bool.eq_iff_iff, beq_iff_eq, decide_eq_true_eq]
  refine ⟨fun h => strB_inj hl hm ?_, fun h => by rw [h]⟩
  unfold strB strOfNums
  unfold Lib.bytesOf at h
  rw [h]
theorem strB_beq {l m : List Nat} (hl : Byt l) (hm : Byt m) : ((strB l).toList == (strB m).toList) = decide (l = m) := by
  unfold strB
  rw [Lib.strOfNums_toList, Lib.strOfNums_toList]
  exact bytesOf_beq hl hm
theorem ByQ.str {w : World} {v : Value} {l : List Nat} (h : ByQ w v l) : (convert 30 9 v).run Tryd.prog w = .ok (.string (strB l)) w := by
  obtain ⟨_, ⟨rfl, a, c, rfl, _⟩ | ⟨b, o, c, rfl, _, _, h6⟩⟩ := h
  · cases a with
    | none => exact run_convert_bytes_nil (P := Tryd.prog) w 30 5 Tryd.underlying30 Tryd.underlying5 0 c 9 Tryd.underlying9
    | some ad =>
      rw [run_convert_bytes_string w 30 9 5 _ 0 c Tryd.underlying30 Tryd.underlying5 Tryd.underlying9]
      exact run_bytesToString w ad 0 c [] (run_loadCells_list (P := Tryd.prog) w ad [] (fun j v hj => by simp at hj))
  · refine run_convert_bytes_arg (P := Tryd.prog) w 30 5 Tryd.underlying30 Tryd.underlying5 b o l.length c (l.map fun x : Nat => (x : Int)) (by simp) ?_ 9 Tryd.underlying9
    intro i hi
    rw [h6 i hi, List.getD_eq_getElem?_getD]
    simp [List.getElem?_eq_getElem hi]

theorem hideIt {p : Prop} (h : p) : Hid p := h
theorem ret_int {k : IntKind} {a b : Int} (h : a = b) : Ending.returned (.int k a) = .returned (.int k b) := by rw [h]
theorem ret_bool {a b : Bool} (h : a = b) : Ending.returned (.bool a) = .returned (.bool b) := by rw [h]
theorem below_join {w W w1 : World} (h : Below w.heap.size w W) (hb : Below W.heap.size W w1) : Below w.heap.size w w1 := h.trans (hb.mono h.size)
theorem below_alloc {w W : World} (h : Below w.heap.size w W) (o : Obj) : Below w.heap.size w (W.alloc o) := h.alloc h.size o

end Go.Proofs.YtdncnljcihblbaaDoor
