/-
  The program's net, walked: Cut, Double.
-/
import Derived.Test.YtncnojgemmcplaaCbP
import Derived.Test.YtncnojgemmcplaaNtP
import Derived.Test.YtncnojgemmcplaaNsP
namespace Go.Proofs.Ytncnojgemmcplaa
open Go.RowKit

/-- What Cut tells: the net has other links. -/
def CutQ (B o : Nat) (lv' : Value) (w w' : World) : Prop := ∃ w1, Below w.heap.size w w1 ∧ w' = w1.setCell ⟨B, o + 1, none⟩ lv'
set_option maxRecDepth 100000 in
set_option maxHeartbeats 1000000 in
theorem pcut_nil (base B o : Nat) (lv v : Value) (L : List Mq) (w : World) (h : NetP w base B o lv v L) (f1 : w.frozen? ⟨B, o + 1, none⟩ = false) :
    Calls Try.prog 42 #[.pointer (some ⟨B, o, none⟩), .slice none 0 0] w fun e w' => e = .returned (.tuple #[]) ∧ CutQ B o (.slice none 0 0) w w' := by
  have c1 := h.c1
  have HC := hideIt (copied_nil w)
  clear h
  go_enter Try.func42, Try.ntmps42
  go_wp2_with fail
  refine HC.out.mono ?_
  rintro e w1 ⟨rfl, rfl⟩
  go_wp2
  go_end0
  exact ⟨rfl, _, Below.refl _ _, rfl⟩
set_option maxRecDepth 100000 in
set_option maxHeartbeats 1000000 in
theorem pcut_any (n : Nat) (hn : 1 ≤ n ∧ n ≤ 20) (r : Nat → Nat → Bool) (X : Nat → Prop) (l : Value) (base B o : Nat) (lv v : Value) (L : List Mq) (w : World) (h : NetP w base B o lv v L) (f1 : w.frozen? ⟨B, o + 1, none⟩ = false) (hl : LnkS w X l (tabL n r)) :
    Calls Try.prog 42 #[.pointer (some ⟨B, o, none⟩), l] w fun e w' => e = .returned (.tuple #[]) ∧ ∃ lv' w1, Below w.heap.size w w1 ∧ w' = w1.setCell ⟨B, o + 1, none⟩ lv' ∧ LnkS w1 (fun b => w.heap.size ≤ b ∧ LTg w1 b) lv' (tabL n r) ∧ ∃ a n c, lv' = .slice (some a) n c := by
  have HN := hideIt h
  have HC := hideIt (copied_any n hn r X l w hl)
  have HF := hideIt f1
  have hBl := h.lt
  clear h hl f1
  go_enter Try.func42, Try.ntmps42
  go_wp2_with fail
  refine HC.out.mono ?_
  rintro e w1 ⟨lv', rfl, h1, ⟨a, n1, c, rfl⟩, hb⟩
  have c1 := (HN.out.below hb).c1
  have f1 : w1.frozen? ⟨B, o + 1, none⟩ = false := (World.frozen?_of_block (a := ⟨B, o + 1, none⟩) (hb.block B hBl)).trans HF.out
  have H1 := hideIt h1
  have HB := hideIt hb
  clear h1 hb HC
  go_wp2
  go_end0
  exact ⟨rfl, _, w1, HB.out, rfl, H1.out, _, _, _, rfl⟩

/-- What Double tells. -/
def DoubQ (base B o : Nat) (v : Value) (L : List Mq) (i : Int) (w : World) (e : Ending) (w' : World) : Prop :=
  ((i < 0 ∨ (L.length : Int) ≤ i) ∧ e = .returned (.iface 46 (.int .i64 8)) ∧ Below w.heap.size w w') ∨
  (∃ (k : Nat) (m : Mq), i = k ∧ L[k]? = some m ∧ SendQ base B o v L m w e w')
set_option maxRecDepth 100000 in
set_option maxHeartbeats 4000000 in
theorem pdouble_any (i : Int) (base B o : Nat) (lv v : Value) (L : List Mq) (w : World) (h : NetP w base B o lv v L) :
    Calls Try.prog 41 #[.pointer (some ⟨B, o, none⟩), .int .i64 i] w fun e w' => DoubQ base B o v L i w e w' := by
  have HN := hideIt h
  have HA := hideIt (pat_any i base B o lv v L w h)
  clear h
  go_enter Try.func41, Try.ntmps41
  go_wp2_with fail
  refine HA.out.mono ?_
  clear HA
  rintro e W1 ⟨(⟨hi, rfl⟩ | ⟨k, m, rfl, hm, rfl⟩), hb⟩
  · have HI := hideIt hi
    have HB := hideIt hb
    unfold mqV mq0
    clear hi hb
    go_wp2
    go_ret
    exact .inl ⟨HI.out, rfl, belA HB.out _⟩
  · have HM := hideIt hm
    have HB1 := hideIt (belA hb (.cells #[.int .i64 m.fr, .int .i64 m.tt, .int .i64 m.key, .int .i64 m.rd, .bool m.tells, .int .i64 m.t, .int .i64 m.c, .int .i64 m.v] 73))
    have HS := hideIt (psend_any m base B o lv v L _ (HN.out.below HB1.out))
    clear hm hb
    unfold mqV
    go_wp2_with fail
    refine HS.out.mono ?_
    clear HS
    rintro e W2 (⟨h1, rfl, hb2⟩ | ⟨h1, rfl, v', ht⟩)
    · have HB2 := hideIt (belJ HB1.out hb2)
      clear hb2
      go_wp2
      go_ret
      exact .inr ⟨k, m, rfl, HM.out, .inl ⟨h1, rfl, HB2.out⟩⟩
    · have HT := hideIt (ht.pre HN.out HB1.out)
      clear ht
      go_wp2
      go_ret
      exact .inr ⟨k, m, rfl, HM.out, .inr ⟨h1, rfl, v', HT.out⟩⟩
end Go.Proofs.Ytncnojgemmcplaa
