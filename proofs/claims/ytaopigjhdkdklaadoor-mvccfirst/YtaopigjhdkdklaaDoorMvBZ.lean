/-
  The statements of chapter 14: what a base is asked to tell, whatever it is made of; the statements' own played, walked over it.
  The statements' own fact of a base: based, walked.
-/
import Derived.Test.YtaopigjhdkdklaaDoorMvPZ
import Derived.Test.YtaopigjhdkdklaaDoorIsM
import Derived.Test.YtaopigjhdkdklaaDoorJaW
namespace Go.Proofs.YtaopigjhdkdklaaDoor
open Go.RowKit

/-- Asks in memory. -/
def AsksQ (w : World) (a : Option Addr) (l : List (Int × Int × Int)) : Prop := l = [] ∨ ∃ b off, a = some ⟨b, off, none⟩ ∧ b < w.heap.size ∧ ∀ k (_ : k < l.length), w.cell? ⟨b, off + k * 3, none⟩ = some (.int .i64 l[k].1) ∧ w.cell? ⟨b, off + k * 3 + 1, none⟩ = some (.int .i64 l[k].2.1) ∧ w.cell? ⟨b, off + k * 3 + 2, none⟩ = some (.int .i64 l[k].2.2)
theorem AsksQ.below {w w' : World} {a : Option Addr} {l : List (Int × Int × Int)} (h : AsksQ w a l) (hw : Below w.heap.size w w') : AsksQ w' a l := by
  rcases h with h | ⟨b, off, rfl, hb, h⟩
  · exact .inl h
  · refine .inr ⟨b, off, rfl, Nat.lt_of_lt_of_le hb hw.size, fun k hk => ?_⟩
    obtain ⟨h0, h1, h2⟩ := h k hk
    exact ⟨(hw.cell (p := ⟨b, off + k * 3, none⟩) hb).trans h0, (hw.cell (p := ⟨b, off + k * 3 + 1, none⟩) hb).trans h1, (hw.cell (p := ⟨b, off + k * 3 + 2, none⟩) hb).trans h2⟩
/-- Times of begin and commit in memory. -/
def SpansQ (w : World) (a : Option Addr) (n : Nat) (st : MvS) : Prop := n = 0 ∨ ∃ b off, a = some ⟨b, off, none⟩ ∧ b < w.heap.size ∧ ∀ k, k < n → w.cell? ⟨b, off + k * 2, none⟩ = some (.int .i64 (st.bg k)) ∧ w.cell? ⟨b, off + k * 2 + 1, none⟩ = some (.int .i64 (st.en k))
theorem SpansQ.below {w w' : World} {a : Option Addr} {n : Nat} {st : MvS} (h : SpansQ w a n st) (hw : Below w.heap.size w w') : SpansQ w' a n st := by
  rcases h with h | ⟨b, off, rfl, hb, h⟩
  · exact .inl h
  · refine .inr ⟨b, off, rfl, Nat.lt_of_lt_of_le hb hw.size, fun k hk => ?_⟩
    obtain ⟨h0, h1⟩ := h k hk
    exact ⟨(hw.cell (p := ⟨b, off + k * 2, none⟩) hb).trans h0, (hw.cell (p := ⟨b, off + k * 2 + 1, none⟩) hb).trans h1⟩
/-- What a base is asked to tell; PB w0 W B c n st S: the base in block B, made since w0, is in that state; S: the blocks that are its own. -/
structure BaseOk (PB : World → World → Nat → Bool → Nat → MvS → (Nat → Prop) → Prop) : Prop where
  new : ∀ (n : Nat) (c : Bool) (W : World), n ≤ 8 → Calls Tryd.prog 8 #[.int .i64 (n : Int), .bool c] W fun e W' => ∃ B S, e = .returned (.tuple #[.pointer (some ⟨B, 0, none⟩), .nilIface]) ∧ PB W W' B c n mv0 S ∧ ∀ b, S b → W.heap.size ≤ b
  bel : ∀ {w0 W B c n st S}, PB w0 W B c n st S → Below w0.heap.size w0 W
  lt : ∀ {w0 W B c n st S}, PB w0 W B c n st S → ∀ b, S b → w0.heap.size ≤ b ∧ b < W.heap.size
  keep : ∀ {w0 W W' B c n st S}, PB w0 W B c n st S → Below w0.heap.size w0 W' → (∀ b, S b → W'.heap[b]? = W.heap[b]?) → PB w0 W' B c n st S
  doo : ∀ {w0 W B c n st S}, PB w0 W B c n st S → MvI n st → n ≤ 8 → st.tm ≤ 1000 → ∀ p k m : Int, Calls Tryd.prog 11 #[.pointer (some ⟨B, 0, none⟩), .agg #[.int .i64 p, .int .i64 k, .int .i64 m]] W fun e W' => ∃ S', e = .returned (toldV (tellM c n st p k m)) ∧ PB w0 W' B c n (doM c n st p k m) S' ∧ W.heap.size ≤ W'.heap.size ∧ (∀ b, b < W.heap.size → ¬ S b → W'.heap[b]? = W.heap[b]?) ∧ ∀ b, S' b → S b ∨ W.heap.size ≤ b
theorem BaseOk.below {PB : World → World → Nat → Bool → Nat → MvS → (Nat → Prop) → Prop} (hP : BaseOk PB) {w0 W W' : World} {B : Nat} {c : Bool} {n : Nat} {st : MvS} {S : Nat → Prop} (h : PB w0 W B c n st S) (hb : Below W.heap.size W W') : PB w0 W' B c n st S :=
  hP.keep h ((hP.bel h).trans (hb.mono (hP.bel h).size)) fun b hS => hb.block b (hP.lt h b hS).2
theorem tm_do (c : Bool) (n : Nat) (st : MvS) (p k m : Int) : (doM c n st p k m).tm ≤ st.tm + 1 := by
  unfold doM
  split
  · omega
  split
  · exact Int.le_refl _
  split
  · exact Int.le_refl _
  split
  · exact Int.le_refl _
  split
  · split <;> exact Int.le_refl _
  · exact Int.le_refl _
theorem tm_run (c : Bool) (n : Nat) : ∀ (l : List (Int × Int × Int)) (st : MvS), (runM c n st l).tm ≤ st.tm + l.length
  | [], st => by show st.tm ≤ st.tm + ((0 : Nat) : Int); omega
  | a :: l, st => by
    have h1 := tm_run c n l (doM c n st a.1 a.2.1 a.2.2)
    have h2 := tm_do c n st a.1 a.2.1 a.2.2
    have e : runM c n st (a :: l) = runM c n (doM c n st a.1 a.2.1 a.2.2) l := rfl
    rw [e]
    simp only [List.length_cons]
    omega

set_option maxRecDepth 100000 in
set_option maxHeartbeats 2000000 in
theorem played_any {PB : World → World → Nat → Bool → Nat → MvS → (Nat → Prop) → Prop} (hP : BaseOk PB) (c : Bool) (l : List (Int × Int × Int)) (hl : l.length ≤ 80) (a : Option Addr) (cap : Nat) (W : World) (ha : AsksQ W a l) :
    Calls Tryd.prog 14 #[.bool c, .slice a l.length cap] W fun e W' => ∃ B S, e = .returned (.pointer (some ⟨B, 0, none⟩)) ∧ PB W W' B c 8 (runM c 8 mv0 l) S := by
  have HA := hideIt ha
  have HP := hideIt hP
  have HN := hideIt (hP.new 8 c W (Nat.le_refl _))
  clear ha hP
  go_enter Tryd.func14, Tryd.ntmps14
  go_wp2_with fail
  refine HN.out.mono ?_
  rintro e W1 ⟨B, S0, rfl, h1, _⟩
  have H1 := hideIt h1
  clear HN h1
  go_wp2
  go_loopw [7] (fun i wr => ∃ k : Nat, k ≤ l.length ∧ i = .int .i64 k ∧ ∃ S, PB W wr B c 8 (runM c 8 mv0 (l.take k)) S) (fun i _ => l.length - (intOf i).toNat)
  case atStart => exact ⟨0, Nat.zero_le _, rfl, S0, H1.out⟩
  case round =>
    clear H1
    obtain ⟨k, hk, rfl, S, hm⟩ := hrel
    have HM := hideIt hm
    clear hm
    by_cases hin : k < l.length
    · have hin' : (k : Int) < (l.length : Int) := by omega
      obtain ⟨b, off, rfl, hb, hq⟩ : ∃ b off, a = some ⟨b, off, none⟩ ∧ b < W.heap.size ∧ ∀ k (_ : k < l.length), W.cell? ⟨b, off + k * 3, none⟩ = some (.int .i64 l[k].1) ∧ W.cell? ⟨b, off + k * 3 + 1, none⟩ = some (.int .i64 l[k].2.1) ∧ W.cell? ⟨b, off + k * 3 + 2, none⟩ = some (.int .i64 l[k].2.2) := by
        rcases HA.out with e | e
        · rw [e] at hin; simp at hin
        · exact e
      obtain ⟨q0, q1, q2⟩ := hq k hin
      have hbl := HP.out.bel HM.out
      have c0 := (hbl.cell (p := ⟨b, off + k * 3, none⟩) hb).trans q0
      have c1 := (hbl.cell (p := ⟨b, off + k * 3 + 1, none⟩) hb).trans q1
      have c2 := (hbl.cell (p := ⟨b, off + k * 3 + 2, none⟩) hb).trans q2
      have HI : Hid (MvI 8 (runM c 8 mv0 (l.take k))) := run_ok c 8 (l.take k) (MvI.start 8)
      have HT : Hid (runM c 8 mv0 (l.take (k + 1)) = doM c 8 (runM c 8 mv0 (l.take k)) l[k].1 l[k].2.1 l[k].2.2) := by
        show runM c 8 mv0 (l.take (k + 1)) = _
        rw [List.take_add_one, List.getElem?_eq_getElem hin]
        exact runM_app _ _ _ _ _
      have HD := hideIt (HP.out.doo HM.out HI.out (Nat.le_refl _) (by
        have := tm_run c 8 (l.take k) mv0
        have e : mv0.tm = 0 := rfl
        rw [List.length_take] at this
        omega) l[k].1 l[k].2.1 l[k].2.2)
      clear q0 q1 q2 hq hbl HM
      generalize l[k] = x at c0 c1 c2 HT HD
      go_wp2_with fail
      refine HD.out.mono ?_
      rintro e W2 ⟨S', rfl, h2, _⟩
      rw [← HT.out] at h2
      have H2 := hideIt h2
      clear HD HT h2
      go_wp2
      go_roundw
      case rel => exact ⟨k + 1, by omega, by go_num, S', H2.out⟩
      case measure => simp [intOf]; omega
    · have hin' : ¬ (k : Int) < (l.length : Int) := by omega
      have hke : k = l.length := by omega
      rw [hke, List.take_length] at HM
      go_wp2
      go_ret
      exact ⟨B, rfl, S, HM.out⟩
end Go.Proofs.YtaopigjhdkdklaaDoor

namespace Go.Proofs.YtaopigjhdkdklaaDoor
open Go.RowKit

def bsL : List (Int × Int × Int) := [(0, 1, 0), (1, 1, 0), (0, 3, 0), (1, 3, 0), (0, 4, 0)]
theorem bs_zero : ∀ k, (h : k < bsL.length) → tellM false 2 (runM false 2 mv0 (bsL.take k)) bsL[k].1 bsL[k].2.1 bsL[k].2.2 = 0
  | 0, _ => by
    show tellM false 2 (runM false 2 mv0 []) 0 1 0 = 0
    decide
  | 1, _ => by
    show tellM false 2 (runM false 2 mv0 [(0, 1, 0)]) 1 1 0 = 0
    decide
  | 2, _ => by
    show tellM false 2 (runM false 2 mv0 [(0, 1, 0), (1, 1, 0)]) 0 3 0 = 0
    decide
  | 3, _ => by
    show tellM false 2 (runM false 2 mv0 [(0, 1, 0), (1, 1, 0), (0, 3, 0)]) 1 3 0 = 0
    decide
  | 4, _ => by
    show tellM false 2 (runM false 2 mv0 [(0, 1, 0), (1, 1, 0), (0, 3, 0), (1, 3, 0)]) 0 4 0 = 0
    decide
  | k + 5, h => absurd h (by simp [bsL])
theorem bs_last : tellM false 2 (runM false 2 mv0 bsL) 1 4 0 = 12 := by decide
def bsO : Obj := .cells #[.int .i64 0, .int .i64 1, .int .i64 0, .int .i64 1, .int .i64 1, .int .i64 0, .int .i64 0, .int .i64 3, .int .i64 0, .int .i64 1, .int .i64 3, .int .i64 0, .int .i64 0, .int .i64 4, .int .i64 0] 34 (0, 0)
theorem bs_cells {W : World} {B : Nat} (h : W.heap[B]? = some bsO) : ∀ k (_ : k < bsL.length), W.cell? ⟨B, k * 3, none⟩ = some (.int .i64 bsL[k].1) ∧ W.cell? ⟨B, k * 3 + 1, none⟩ = some (.int .i64 bsL[k].2.1) ∧ W.cell? ⟨B, k * 3 + 2, none⟩ = some (.int .i64 bsL[k].2.2) := by
  unfold bsO at h
  intro k hk
  rcases k with _ | _ | _ | _ | _ | k
  · exact ⟨by rw [cell_of_row _ _ _ _ 34 _ h]; rfl, by rw [cell_of_row _ _ _ _ 34 _ h]; rfl, by rw [cell_of_row _ _ _ _ 34 _ h]; rfl⟩
  · exact ⟨by rw [cell_of_row _ _ _ _ 34 _ h]; rfl, by rw [cell_of_row _ _ _ _ 34 _ h]; rfl, by rw [cell_of_row _ _ _ _ 34 _ h]; rfl⟩
  · exact ⟨by rw [cell_of_row _ _ _ _ 34 _ h]; rfl, by rw [cell_of_row _ _ _ _ 34 _ h]; rfl, by rw [cell_of_row _ _ _ _ 34 _ h]; rfl⟩
  · exact ⟨by rw [cell_of_row _ _ _ _ 34 _ h]; rfl, by rw [cell_of_row _ _ _ _ 34 _ h]; rfl, by rw [cell_of_row _ _ _ _ 34 _ h]; rfl⟩
  · exact ⟨by rw [cell_of_row _ _ _ _ 34 _ h]; rfl, by rw [cell_of_row _ _ _ _ 34 _ h]; rfl, by rw [cell_of_row _ _ _ _ 34 _ h]; rfl⟩
  · simp [bsL] at hk
    omega

set_option maxRecDepth 100000 in
set_option maxHeartbeats 4000000 in
theorem based_any {PB : World → World → Nat → Bool → Nat → MvS → (Nat → Prop) → Prop} (hP : BaseOk PB) (W : World) (hg : GlE W) : Calls Tryd.prog 15 #[] W fun e W' => e = .returned (.bool true) ∧ Below W.heap.size W W' := by
  have HP := hideIt hP
  have HG := hideIt hg
  have HN := hideIt (hP.new 2 false W (by omega))
  clear hP hg
  go_enter Tryd.func15, Tryd.ntmps15
  go_wp2_with fail
  refine HN.out.mono ?_
  rintro e W1 ⟨B, S0, rfl, h1, hS0⟩
  have hb1 := HP.out.bel h1
  have hlt1 := HP.out.lt h1
  have H1 : Hid (PB W (W1.alloc bsO) B false 2 mv0 S0) := HP.out.below h1 (belA (Below.refl _ _) _)
  have hBx := heap_alloc_new W1 bsO
  have HS0 : Hid (¬ S0 W1.heap.size) := fun h => by have := (hlt1 _ h).2; omega
  have HBx := hideIt hBx
  clear HN h1 hS0 hBx
  unfold bsO at H1 HBx
  go_wp2
  generalize W1.alloc _ = W2 at H1 HBx ⊢
  generalize W1.heap.size = Bx at *
  clear hb1 hlt1
  go_loopw [22] (fun i wr => ∃ k : Nat, k ≤ 5 ∧ i = .int .i64 k ∧ ∃ S, PB W wr B false 2 (runM false 2 mv0 (bsL.take k)) S ∧ ¬ S Bx ∧ wr.heap[Bx]? = some bsO) (fun i _ => 5 - (intOf i).toNat)
  case atStart => exact ⟨0, Nat.zero_le _, rfl, S0, H1.out, HS0.out, HBx.out⟩
  case round =>
    clear H1 HS0 HBx
    obtain ⟨k, hk, rfl, S, hm, hS, hBx⟩ := hrel
    have HM := hideIt hm
    have HS := hideIt hS
    have HBx := hideIt hBx
    have HI : Hid (MvI 2 (runM false 2 mv0 (bsL.take k))) := run_ok false 2 (bsL.take k) (MvI.start 2)
    have HTm : Hid ((runM false 2 mv0 (bsL.take k)).tm ≤ 1000) := by
      have h1 := tm_run false 2 (bsL.take k) mv0
      have e : mv0.tm = 0 := rfl
      have h2 : (bsL.take k).length ≤ 5 := by rw [List.length_take]; simp [bsL]; omega
      show _ ≤ _
      omega
    clear hm hS
    by_cases hin : k < 5
    · have hin' : (k : Int) < 5 := by omega
      have hkl : k < bsL.length := hin
      obtain ⟨c0, c1, c2⟩ := bs_cells hBx k hkl
      have hz := bs_zero k hkl
      have hBl := lt_of_heap hBx
      have HT : Hid (runM false 2 mv0 (bsL.take (k + 1)) = doM false 2 (runM false 2 mv0 (bsL.take k)) bsL[k].1 bsL[k].2.1 bsL[k].2.2) := by
        show runM false 2 mv0 (bsL.take (k + 1)) = _
        rw [List.take_add_one, List.getElem?_eq_getElem hkl]
        exact runM_app _ _ _ _ _
      clear hBx
      generalize bsL[k] = x at c0 c1 c2 hz HT
      have HMa := hideIt (HP.out.below HM.out (belA (Below.refl _ _) (.cells #[.int .i64 x.1, .int .i64 x.2.1, .int .i64 x.2.2] 34)))
      have HD := hideIt (HP.out.doo HMa.out HI.out (by omega) HTm.out x.1 x.2.1 x.2.2)
      rw [hz] at HD
      have hx1 : ¬ Bx = wr.heap.size := by omega
      have hx2 : ¬ wr.heap.size = Bx := by omega
      have HBa : Hid ((wr.alloc (.cells #[.int .i64 x.1, .int .i64 x.2.1, .int .i64 x.2.2] 34)).heap[Bx]? = some bsO) := (Below.heap_alloc _ _ Bx hBl).trans HBx.out
      have hBl2 : Bx < (wr.alloc (.cells #[.int .i64 x.1, .int .i64 x.2.1, .int .i64 x.2.2] 34)).heap.size := by simp; omega
      clear HM hz HBx
      go_wp2_with fail
      refine HD.out.mono ?_
      rintro e W3 ⟨S', rfl, h3, hsz, hkp, hSn⟩
      rw [← HT.out] at h3
      have H3 := hideIt h3
      have HB3 : Hid (W3.heap[Bx]? = some bsO) := (hkp Bx hBl2 HS.out).trans HBa.out
      have HS3 : Hid (¬ S' Bx) := fun h => by
        rcases hSn Bx h with h | h
        · exact HS.out h
        · omega
      have ht0 : toldV 0 = .nilIface := rfl
      rw [ht0]
      clear HD HT h3 hsz hkp hSn HMa HBa c0 c1 c2 hx1 hx2
      go_wp2
      go_roundw
      case rel => exact ⟨k + 1, by omega, by go_num, S', H3.out, HS3.out, HB3.out⟩
      case measure => simp [intOf]; omega
    · have hin' : ¬ (k : Int) < 5 := by omega
      have hke : k = 5 := by omega
      have e5 : bsL.take k = bsL := by rw [hke]; rfl
      rw [e5] at HM HI HTm
      have HD := hideIt (HP.out.doo HM.out HI.out (by omega) HTm.out 1 4 0)
      rw [bs_last] at HD
      have h12 : toldV 12 = .iface 29 (.int .i64 12) := rfl
      rw [h12] at HD
      clear hBx HBx
      go_wp2_with fail
      refine HD.out.mono ?_
      rintro e W3 ⟨S', rfl, h3, _⟩
      have hb3 := HP.out.bel h3
      have HT := hideIt (tell_errno 12 W3 (HG.out.below hb3).2)
      have HB3 := hideIt hb3
      clear HD hb3 h3
      go_wp2_with fail
      refine HT.out.mono ?_
      rintro e W4 ⟨rfl, hb4⟩
      have HB4 := hideIt (belJ HB3.out hb4)
      clear HT hb4
      go_wp2
      go_ret
      exact ⟨rfl, HB4.out⟩
end Go.Proofs.YtaopigjhdkdklaaDoor
