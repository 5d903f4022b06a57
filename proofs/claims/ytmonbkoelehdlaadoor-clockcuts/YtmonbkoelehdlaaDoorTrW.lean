/-
  The document's Times, walked; two rows of numbers held against each other.
-/
import Derived.Test.YtmonbkoelehdlaaDoorA9W
import Derived.Test.YtmonbkoelehdlaaDoorTiW
namespace Go.Proofs.YtmonbkoelehdlaaDoor
open Go.RowKit

theorem ReadM.below {w w' : World} {v : Value} {n : Nat} {A : Nat → Nat → Bool} (h : ReadM w v n A) (hb : Below w.heap.size w w') : ReadM w' v n A := by
  obtain ⟨a, cap, rfl, hc, hr⟩ := h
  refine ⟨a, cap, rfl, hc, fun i hi => ?_⟩
  obtain ⟨g, off, r, ha, h1, h2⟩ := hr i hi
  exact ⟨g, off, r, ha, (hb.cell (p := ⟨g, off + i, none⟩) (World.block_lt_of_cell? w _ h1)).trans h1, fun k hk => (hb.cell (p := ⟨r, k, none⟩) (World.block_lt_of_cell? w _ (h2 k hk))).trans (h2 k hk)⟩
theorem ReadM.same {w : World} {v : Value} {n : Nat} {A A' : Nat → Nat → Bool} (h : ReadM w v n A) (e : ∀ i k, i < n → k < n → A i k = A' i k) : ReadM w v n A' := by
  obtain ⟨a, cap, rfl, hc, hr⟩ := h
  refine ⟨a, cap, rfl, hc, fun i hi => ?_⟩
  obtain ⟨g, off, r, ha, h1, h2⟩ := hr i hi
  exact ⟨g, off, r, ha, h1, fun k hk => by rw [← e i k hi hk]; exact h2 k hk⟩
theorem A9Told.read {l : List Stp} {w w' : World} {e : Ending} (h : A9Told l w e w') : ∃ v, e = .returned v ∧ ReadM w' v l.length (aheadC l) ∧ Below w.heap.size w w' := by
  obtain ⟨v, gs, A, rfl, ho, hg, hA, hb⟩ := h
  exact ⟨v, rfl, (ho.readM hg).same hA, hb⟩

def LongK (l : List Stp) (t : Nat → Nat) (k : Nat) : Prop := (∀ i, i < l.length → aheadC l i k = true → t i + 1 ≤ t k) ∧ (t k = 1 ∨ ∃ i, i < l.length ∧ aheadC l i k = true ∧ t k = t i + 1) ∧ 1 ≤ t k ∧ t k ≤ k + 1
def LongM (l : List Stp) (t : Nat → Nat) (k r m : Nat) : Prop := (∀ i, i < r → aheadC l i k = true → t i + 1 ≤ m) ∧ (m = 1 ∨ ∃ i, i < k ∧ aheadC l i k = true ∧ m = t i + 1) ∧ 1 ≤ m ∧ m ≤ k + 1
theorem longK_of {l : List Stp} {t : Nat → Nat} {k m : Nat} (hk : k < l.length) (hp : ∀ j, j < k → LongK l t j) (h : LongM l t k k m) : ∀ j, j < k + 1 → LongK l (fun q => if q = k then m else t q) j := by
  intro j hj
  by_cases e : j = k
  · subst e
    have hlt : ∀ i, i < l.length → aheadC l i j = true → i < j := fun i hi ha => aheadC_lt hi hk ha
    refine ⟨fun i hi ha => ?_, ?_, ?_, ?_⟩
    · have := hlt i hi ha
      simp only [if_true, if_neg (show ¬ i = j by omega)]
      exact h.1 i this ha
    · simp only [if_true]
      rcases h.2.1 with h0 | ⟨i, hi, ha, h0⟩
      · exact .inl h0
      · exact .inr ⟨i, by omega, ha, by rw [if_neg (show ¬ i = j by omega)]; exact h0⟩
    · simp only [if_true]; exact h.2.2.1
    · simp only [if_true]; exact h.2.2.2
  · obtain ⟨a1, a2, a3, a4⟩ := hp j (by omega)
    have hlt : ∀ i, i < l.length → aheadC l i j = true → ¬ i = k := fun i hi ha => by have := aheadC_lt hi (by omega) ha; omega
    refine ⟨fun i hi ha => ?_, ?_, ?_, ?_⟩
    · simp only [if_neg e, if_neg (hlt i hi ha)]; exact a1 i hi ha
    · simp only [if_neg e]
      rcases a2 with h0 | ⟨i, hi, ha, h0⟩
      · exact .inl h0
      · exact .inr ⟨i, hi, ha, by rw [if_neg (hlt i hi ha)]; exact h0⟩
    · simp only [if_neg e]; exact a3
    · simp only [if_neg e]; exact a4
theorem longM_next {l : List Stp} {t : Nat → Nat} {k r m : Nat} (hp : ∀ j, j < k → LongK l t j) (hr : r < k) (h : LongM l t k r m) (ha : aheadC l r k = true) : LongM l t k (r + 1) (if m < t r + 1 then t r + 1 else m) := by
  have hb := (hp r hr).2.2.2
  refine ⟨fun i hi hai => ?_, ?_, ?_, ?_⟩
  · by_cases e : i = r
    · subst e; split <;> omega
    · have := h.1 i (by omega) hai; split <;> omega
  · split
    · exact .inr ⟨r, hr, ha, rfl⟩
    · exact h.2.1
  · split
    · omega
    · exact h.2.2.1
  · split
    · omega
    · exact h.2.2.2
theorem longM_skip {l : List Stp} {t : Nat → Nat} {k r m : Nat} (h : LongM l t k r m) (ha : aheadC l r k = false) : LongM l t k (r + 1) m :=
  ⟨fun i hi hai => by
    by_cases e : i = r
    · subst e; rw [ha] at hai; cases hai
    · exact h.1 i (by omega) hai, h.2⟩

set_option maxRecDepth 100000 in
set_option maxHeartbeats 4000000 in
theorem rTimes_any (l : List Stp) (a : Option Addr) (cap : Nat) (w : World) (hlen : l.length ≤ 60) (hl : StpsQ w a l) :
    Calls Tryd.prog 11 #[.slice a l.length cap] w fun e w' => ∃ g t, e = .returned (.slice (some ⟨g, 0, none⟩) l.length l.length) ∧ LongT l t ∧ (∀ k, k < l.length → t k ≤ k + 1) ∧ IntB w' g l.length (fun k => (t k : Int)) ∧ Below w.heap.size w w' := by
  have HC := hideIt (ahead9_any l a cap w hlen hl)
  clear hl
  go_enter Tryd.func11, Tryd.ntmps11
  go_wp2_with fail
  refine HC.out.mono ?_
  intro e w1 hA
  obtain ⟨v, rfl, hm, hb1⟩ := hA.read
  have HB1 := hideIt hb1
  have HM := hideIt hm
  obtain ⟨ma, mc, rfl, hmc, _⟩ := hm
  clear hA hb1 HC
  have hmk := made29 w1 l.length (by omega)
  have HI0 := hideIt (intB_made w1 l.length)
  have HB2 : Hid (Below w1.heap.size w1 (w1.alloc (.cells (madeCells #[.int .i64 0] l.length) 3))) := belA (Below.refl _ _) _
  go_wp2
  clear hmk
  generalize w1.alloc (.cells (madeCells #[.int .i64 0] l.length) 3) = W2 at HI0 HB2 ⊢
  go_loopw [14] (fun i wr => ∃ (k : Nat) (t : Nat → Nat), k ≤ l.length ∧ i = .int .i64 k ∧ (∀ j, j < k → LongK l t j) ∧ IntB wr w1.heap.size l.length (tiF t k 0) ∧ Below w1.heap.size w1 wr) (fun i _ => l.length - (intOf i).toNat)
  case atStart => exact ⟨0, fun _ => 0, Nat.zero_le _, rfl, fun j hj => absurd hj (by omega), HI0.out.same fun q _ => by simp [tiF], HB2.out⟩
  case round =>
    clear HI0 HB2
    obtain ⟨k, t, hk, rfl, hct, hi, hb⟩ := hrel
    have HCt := hideIt hct
    have HI := hideIt hi
    have HB := hideIt hb
    clear hct hi hb
    by_cases hkl : k < l.length
    · obtain ⟨v0, q0⟩ : ∃ v0, wr.cell? ⟨w1.heap.size, k, none⟩ = some v0 := ⟨_, HI.out.at_ k hkl⟩
      have z0 := HI.out.fz k
      have R1 : Hid (IntB (wr.setCell ⟨w1.heap.size, k, none⟩ (.int .i64 1)) w1.heap.size l.length (tiF t k 1)) := (HI.out.put hkl 1).same fun q _ => by
        unfold tiF
        by_cases e : q = k
        · subst e; simp
        · simp [e]
      have R2 : Hid (Below w1.heap.size w1 (wr.setCell ⟨w1.heap.size, k, none⟩ (.int .i64 1))) := HB.out.setCell (Nat.le_refl _) _
      go_wp2
      go_loopw [21] (fun i wr => ∃ r m : Nat, r ≤ k ∧ i = .int .i64 r ∧ LongM l t k r m ∧ IntB wr w1.heap.size l.length (tiF t k m) ∧ Below w1.heap.size w1 wr) (fun i _ => k - (intOf i).toNat)
      case atStart => exact ⟨0, 1, Nat.zero_le _, rfl, ⟨fun i h => absurd h (by omega), .inl rfl, by omega, by omega⟩, R1.out, R2.out⟩
      case round =>
        clear HI HB q0 z0 R1 R2
        obtain ⟨r, m, hr, rfl, hmx, hi, hb⟩ := hrel
        have HMx := hideIt hmx
        have HI := hideIt hi
        have HB := hideIt hb
        clear hmx hi hb
        by_cases hrl : r < k
        · obtain ⟨ma', mc', hv', _, hrd⟩ := HM.out.below HB.out
          simp at hv'
          obtain ⟨rfl, rfl⟩ := hv'
          obtain ⟨g, off, rr, rfl, e1, e2⟩ := hrd r (by omega)
          have e3 := e2 k hkl
          clear e2 hrd
          have hrL : r < l.length := by omega
          cases ha : aheadC l r k
          · rw [ha] at e3
            have R1 := hideIt (longM_skip HMx.out ha)
            clear ha
            go_wp2
            go_roundw
            case rel => exact ⟨r + 1, m, by omega, by go_num, R1.out, HI.out, HB.out⟩
            case measure => simp [intOf]; omega
          · rw [ha] at e3
            have HN := hideIt (longM_next HCt.out hrl HMx.out ha)
            have htr := (HCt.out r hrl).2.2.2
            clear ha
            have c1 := HI.out.at_ k hkl
            have c2 := HI.out.at_ r hrL
            have z1 := HI.out.fz k
            rw [show tiF t k m k = (m : Int) by simp [tiF]] at c1
            rw [show tiF t k m r = (t r : Int) by simp [tiF, hrl]] at c2
            obtain ⟨m', hm'⟩ : ∃ m' : Nat, (if m < t r + 1 then t r + 1 else m) = m' := ⟨_, rfl⟩
            rw [hm'] at HN
            have R1 : Hid (IntB (wr.setCell ⟨w1.heap.size, k, none⟩ (.int .i64 (m' : Int))).drew w1.heap.size l.length (tiF t k m')) := by
              have := (HI.out.put hkl (m' : Int)).same (f' := tiF t k m') fun q _ => by
                unfold tiF
                by_cases e : q = k
                · subst e; simp
                · simp [e]
              exact ⟨this.blk, this.at_⟩
            have R3 : Hid (Below w1.heap.size w1 (wr.setCell ⟨w1.heap.size, k, none⟩ (.int .i64 (m' : Int))).drew) := (HB.out.setCell (p := ⟨w1.heap.size, k, none⟩) (Nat.le_refl _) _).drew
            by_cases hlt : m < t r + 1
            · rw [if_pos hlt] at hm'
              subst hm'
              have hlt' : (m : Int) < (t r : Int) + 1 := by omega
              have hcast : ((t r + 1 : Nat) : Int) = (t r : Int) + 1 := by omega
              rw [hcast] at R1 R3
              go_wp2_with fail
              go_region
              all_goals
                go_wp2
                go_roundw
                case rel => exact ⟨r + 1, _, by omega, by go_num, HN.out, R1.out, R3.out⟩
                case measure => simp [intOf]; omega
            · rw [if_neg hlt] at hm'
              subst hm'
              have hlt' : ¬ (m : Int) < (t r : Int) + 1 := by omega
              go_wp2_with fail
              go_region
              all_goals
                go_wp2
                go_roundw
                case rel => exact ⟨r + 1, _, by omega, by go_num, HN.out, R1.out, R3.out⟩
                case measure => simp [intOf]; omega
        · obtain rfl : r = k := by omega
          have HN := hideIt (longK_of hkl HCt.out HMx.out)
          have R1 : Hid (IntB wr w1.heap.size l.length (tiF (fun q => if q = r then m else t q) (r + 1) 0)) := HI.out.same fun q _ => by
            unfold tiF
            by_cases e : q = r
            · subst e; simp
            · by_cases e2 : q < r
              · simp [e, e2, show q < r + 1 by omega]
              · simp [e, e2, show ¬ q < r + 1 by omega]
          go_wp2
          go_roundw
          case rel => exact ⟨r + 1, _, by omega, by go_num, HN.out, R1.out, HB.out⟩
          case measure => simp [intOf]; omega
    · obtain rfl : k = l.length := by omega
      go_wp2
      go_ret
      exact ⟨_, t, rfl, fun k hk => ⟨(HCt.out k hk).1, (HCt.out k hk).2.1, (HCt.out k hk).2.2.1⟩, fun k hk => (HCt.out k hk).2.2.2, HI.out.same fun q hq => by simp [tiF, hq], belJ HB1.out HB.out⟩

/-- A row of numbers, read. -/
def ReadI (w : World) (v : Value) (n : Nat) (f : Nat → Int) : Prop := ∃ a cap, v = .slice a n cap ∧ n ≤ cap ∧ ∀ i, i < n → ∃ g, a = some ⟨g, 0, none⟩ ∧ w.cell? ⟨g, i, none⟩ = some (.int .i64 (f i))
theorem readI_nil (w : World) (f : Nat → Int) : ReadI w (.slice none 0 0) 0 f := ⟨none, 0, rfl, Nat.le_refl _, fun i hi => absurd hi (by omega)⟩
theorem IntB.readI {w : World} {g n : Nat} {f : Nat → Int} (h : IntB w g n f) : ReadI w (.slice (some ⟨g, 0, none⟩) n n) n f := ⟨_, n, rfl, Nat.le_refl _, fun i hi => ⟨g, rfl, h.at_ i hi⟩⟩
theorem ReadI.below {w w' : World} {v : Value} {n : Nat} {f : Nat → Int} (h : ReadI w v n f) (hb : Below w.heap.size w w') : ReadI w' v n f := by
  obtain ⟨a, cap, rfl, hc, hr⟩ := h
  refine ⟨a, cap, rfl, hc, fun i hi => ?_⟩
  obtain ⟨g, ha, h1⟩ := hr i hi
  exact ⟨g, ha, (hb.cell (p := ⟨g, i, none⟩) (World.block_lt_of_cell? w _ h1)).trans h1⟩

set_option maxRecDepth 100000 in
set_option maxHeartbeats 1000000 in
theorem sameInts_any (n : Nat) (hn : n ≤ 60) (f : Nat → Int) (v v' : Value) (w : World) (h : ReadI w v n f) (h' : ReadI w v' n f) :
    Calls Tryd.prog 14 #[v, v'] w fun e w' => e = .returned (.bool true) ∧ Below w.heap.size w w' := by
  have HR := hideIt h
  have HR' := hideIt h'
  obtain ⟨a, cap, rfl, hc, _⟩ := h
  obtain ⟨a', cap', rfl, hc', _⟩ := h'
  go_enter Tryd.func14, Tryd.ntmps14
  go_wp2
  go_loopw [5] (fun i wr => ∃ (k : Nat), k ≤ n ∧ i = .int .i64 k ∧ Below w.heap.size w wr) (fun i _ => n - (intOf i).toNat)
  case atStart => exact ⟨0, Nat.zero_le _, rfl, Below.refl _ _⟩
  case round =>
    obtain ⟨i, hi, rfl, hb⟩ := hrel
    have HB := hideIt hb
    clear hb
    by_cases hin : i < n
    · obtain ⟨b1, p1, e1, _, hr1⟩ := HR.out.below HB.out
      obtain ⟨b2, p2, e2, _, hr2⟩ := HR'.out.below HB.out
      simp at e1 e2
      obtain ⟨rfl, rfl⟩ := e1
      obtain ⟨rfl, rfl⟩ := e2
      obtain ⟨g, rfl, c1⟩ := hr1 i hin
      obtain ⟨g', rfl, c2⟩ := hr2 i hin
      clear hr1 hr2
      have hne : (f i != f i) = false := by simp
      go_wp2_with fail
      go_big_quiet (fail)
      go_wp2
      go_roundw
      case rel => exact ⟨i + 1, by omega, by go_num, below_drewN HB.out _⟩
      case measure => simp [intOf]; omega
    · go_wp2
      go_ret
      exact ⟨rfl, HB.out⟩
end Go.Proofs.YtmonbkoelehdlaaDoor
