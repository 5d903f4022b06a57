/-
  Package clock's Times, walked.
-/
import Derived.Test.YtmonbkoelehdlaaDoorIntM
import Derived.Deep.RegionHeld3
namespace Go.Proofs.YtmonbkoelehdlaaDoor
open Go.RowKit

/-- Times, up to a step. -/
def CountsK (l : List Stp) (t : Nat → Nat) (k : Nat) : Prop := (∀ j, j ∈ predC l k → t j + 1 ≤ t k) ∧ (t k = 1 ∨ ∃ j, j ∈ predC l k ∧ t k = t j + 1) ∧ 1 ≤ t k ∧ t k ≤ k + 1
/-- The greatest of the first ones. -/
def MaxOf (l : List Stp) (t : Nat → Nat) (k r m : Nat) : Prop := (∀ i (h : i < (predC l k).length), i < r → t (predC l k)[i] ≤ m) ∧ (m = 0 ∨ ∃ i, ∃ h : i < (predC l k).length, m = t (predC l k)[i]) ∧ m ≤ k
theorem countsK_of {l : List Stp} {t : Nat → Nat} {k m : Nat} (hp : ∀ j, j < k → CountsK l t j) (h : MaxOf l t k (predC l k).length m) : ∀ j, j < k + 1 → CountsK l (fun q => if q = k then m + 1 else t q) j := by
  intro j hj
  have hlt : ∀ q i, i ∈ predC l q → q < k + 1 → (if i = k then m + 1 else t i) = t i := fun q i hi hq => by
    rw [if_neg]; have := predC_lt hi; omega
  by_cases e : j = k
  · subst e
    refine ⟨fun i hi => ?_, ?_, ?_, ?_⟩
    · simp only [if_true, hlt j i hi (by omega)]
      obtain ⟨r, hr, rfl⟩ := List.getElem_of_mem hi
      have := h.1 r hr hr
      omega
    · simp only [if_true]
      rcases h.2.1 with h0 | ⟨i, hi, h0⟩
      · exact .inl (by omega)
      · exact .inr ⟨_, List.getElem_mem hi, by rw [hlt j _ (List.getElem_mem hi) (by omega)]; omega⟩
    · simp
    · simp only [if_true]; have := h.2.2; omega
  · obtain ⟨a1, a2, a3, a4⟩ := hp j (by omega)
    refine ⟨fun i hi => ?_, ?_, ?_, ?_⟩
    · simp only [if_neg e, hlt j i hi (by omega)]; exact a1 i hi
    · simp only [if_neg e]
      rcases a2 with h0 | ⟨i, hi, h0⟩
      · exact .inl h0
      · exact .inr ⟨i, hi, by rw [hlt j i hi (by omega)]; exact h0⟩
    · simp only [if_neg e]; exact a3
    · simp only [if_neg e]; exact a4
theorem countsT_of {l : List Stp} {t : Nat → Nat} (h : ∀ j, j < l.length → CountsK l t j) : CountsT l t := fun k hk => ⟨(h k hk).1, (h k hk).2.1, (h k hk).2.2.1⟩
theorem maxOf_next {l : List Stp} {t : Nat → Nat} {k r m : Nat} (hp : ∀ j, j < k → CountsK l t j) (hr : r < (predC l k).length) (h : MaxOf l t k r m) : MaxOf l t k (r + 1) (if (m : Int) < (t (predC l k)[r] : Int) then t (predC l k)[r] else m) := by
  have hj := predC_lt (List.getElem_mem hr)
  have hb := (hp _ hj).2.2.2
  refine ⟨fun i hi hir => ?_, ?_, ?_⟩
  · by_cases e : i = r
    · subst e; split <;> omega
    · have := h.1 i hi (by omega); split <;> omega
  · split
    · exact .inr ⟨r, hr, rfl⟩
    · exact h.2.1
  · split
    · omega
    · exact h.2.2

/-- What Times tells. -/
def TiTold (l : List Stp) (w : World) (e : Ending) (w' : World) : Prop :=
  ∃ v err n pl, e = .returned (.tuple #[v, err]) ∧ CkC l n pl ∧ ErrAt w' err n pl ∧ (n ≠ 0 → v = .slice none 0 0) ∧ (n = 0 → ∃ g t, v = .slice (some ⟨g, 0, none⟩) l.length l.length ∧ w.heap.size ≤ g ∧ CountsT l t ∧ (∀ k, k < l.length → t k ≤ k + 1) ∧ IntB w' g l.length (fun k => (t k : Int))) ∧ Below w.heap.size w w'

def tiF (t : Nat → Nat) (k m : Nat) (q : Nat) : Int := if q < k then (t q : Int) else if q = k then (m : Int) else 0

set_option maxRecDepth 100000 in
set_option maxHeartbeats 4000000 in
theorem times_any (l : List Stp) (a : Option Addr) (cap : Nat) (w : World) (hmax : l.length ≤ maxLen) (hl : StpsQ w a l) :
    Calls Tryd.prog 12 #[.slice a l.length cap] w fun e w' => TiTold l w e w' := by
  have HC := hideIt (check_any l a cap w hmax hl)
  have HL := hideIt hl
  clear hl
  go_enter Tryd.func12, Tryd.ntmps12
  go_wp2_with fail
  refine HC.out.mono ?_
  rintro e w1 ⟨err, n, pl, rfl, hck, her, hb1⟩
  have HCk := hideIt hck
  have HB1 := hideIt hb1
  clear hck hb1 HC
  by_cases hn : n = 0
  · subst hn
    obtain ⟨rfl, rfl⟩ := her.nil
    clear her
    have hok := HCk.out.ok
    have h40 := hok.1
    have HFine := hideIt hok.2.1
    clear hok
    have hmk := made29 w1 l.length (by omega)
    have HI0 := hideIt (intB_made w1 l.length)
    have HB2 : Hid (Below w.heap.size w (w1.alloc (.cells (madeCells #[.int .i64 0] l.length) 3))) := belA HB1.out _
    have HSo := hideIt (sources_any l a cap (w1.alloc (.cells (madeCells #[.int .i64 0] l.length) 3)) h40 HFine.out (HL.out.below HB2.out))
    go_wp2_with fail
    refine HSo.out.mono ?_
    rintro e w3 ⟨vs, rfl, hso, hb3⟩
    have HT := hideIt hso
    have HI := hideIt (HI0.out.below hb3 (by simp))
    have HB3 := hideIt (belJ HB2.out hb3)
    have hG : w1.heap.size < (w1.alloc (.cells (madeCells #[.int .i64 0] l.length) 3)).heap.size := by simp
    clear hso hb3 HSo HI0 HB2 hmk
    generalize w1.alloc (.cells (madeCells #[.int .i64 0] l.length) 3) = W2 at HT hG ⊢
    go_wp2
    go_loopw [21] (fun i wr => ∃ (k : Nat) (t : Nat → Nat), k ≤ l.length ∧ i = .int .i64 k ∧ (∀ j, j < k → CountsK l t j) ∧ IntB wr w1.heap.size l.length (tiF t k 0) ∧ SoTab l W2 wr l.length [] vs ∧ Below w.heap.size w wr) (fun i _ => l.length - (intOf i).toNat)
    case atStart => exact ⟨0, fun _ => 0, Nat.zero_le _, rfl, fun j hj => absurd hj (by omega), HI.out.same fun q _ => by simp [tiF], HT.out, HB3.out⟩
    case round =>
      clear HT HI HB3
      obtain ⟨k, t, hk, rfl, hct, hi, hso, hb⟩ := hrel
      have HCt := hideIt hct
      have HI := hideIt hi
      have HT := hideIt hso
      have HB := hideIt hb
      clear hct hi hso hb
      by_cases hkl : k < l.length
      · obtain ⟨ra, rc, hc0, hrc, hrow⟩ := HT.out.read k hkl
        have HRow : Hid (∀ wq, SoTab l W2 wq l.length [] vs → ∀ j (hj : j < (predC l k).length), ∃ g, ra = some ⟨g, 0, none⟩ ∧ wq.cell? ⟨g, j, none⟩ = some (.int .i64 ((predC l k)[j] : Int))) := fun wq hq j hj => by
          obtain ⟨ra', rc', hc0', _, hrow'⟩ := hq.read k hkl
          have e1 := (TabN.tab hq).cell hkl
          have e2 := HT.out.tab.cell hkl
          rw [hc0'] at e1
          rw [hc0] at e2
          rw [← e2] at e1
          have e3 := Option.some.inj e1
          simp at e3
          rw [← e3.1]
          exact hrow' j hj
        have hfew := predC_few l k
        clear hrow
        go_wp2
        go_loopw [28] (fun i wr => ∃ r m : Nat, r ≤ (predC l k).length ∧ i = .int .i64 r ∧ MaxOf l t k r m ∧ IntB wr w1.heap.size l.length (tiF t k m) ∧ SoTab l W2 wr l.length [] vs ∧ Below w.heap.size w wr) (fun i _ => (predC l k).length - (intOf i).toNat)
        case atStart => exact ⟨0, 0, Nat.zero_le _, rfl, ⟨fun i _ h => absurd h (by omega), .inl rfl, Nat.zero_le _⟩, HI.out, HT.out, HB.out⟩
        case round =>
          clear HI HT HB hc0
          obtain ⟨r, m, hr, rfl, hmx, hi, hso, hb⟩ := hrel
          have HMx := hideIt hmx
          have HI := hideIt hi
          have HT := hideIt hso
          have HB := hideIt hb
          clear hmx hi hso hb
          by_cases hrl : r < (predC l k).length
          · obtain ⟨g, rfl, hg⟩ := HRow.out wr HT.out r hrl
            have hjl := predC_lt (List.getElem_mem hrl)
            have HN := hideIt (maxOf_next HCt.out hrl HMx.out)
            generalize (predC l k)[r] = j at hg hjl HN
            have c1 := HI.out.at_ k hkl
            have c2 := HI.out.at_ j (by omega)
            have z1 := HI.out.fz k
            rw [show tiF t k m k = (m : Int) by simp [tiF]] at c1
            rw [show tiF t k m j = (t j : Int) by simp [tiF, hjl]] at c2
            have hjL : j < l.length := by omega
            obtain ⟨m', hm'⟩ : ∃ m' : Nat, (if (m : Int) < (t j : Int) then t j else m) = m' := ⟨_, rfl⟩
            rw [hm'] at HN
            have hmI : (if m < t j then (t j : Int) else (m : Int)) = (m' : Int) := by
              rw [← hm']
              by_cases e : m < t j
              · rw [if_pos e, if_pos (by omega)]
              · rw [if_neg e, if_neg (by omega)]
            have R1 : Hid (IntB (wr.setCell ⟨w1.heap.size, k, none⟩ (.int .i64 (m' : Int))).drew w1.heap.size l.length (tiF t k m')) := by
              have := (HI.out.put hkl (m' : Int)).same (f' := tiF t k m') fun q _ => by
                unfold tiF
                by_cases e : q = k
                · subst e; simp
                · simp [e]
              exact ⟨this.blk, this.at_⟩
            have R2 : Hid (SoTab l W2 (wr.setCell ⟨w1.heap.size, k, none⟩ (.int .i64 (m' : Int))).drew l.length [] vs) := TabN.drew (HT.out.set (p := ⟨w1.heap.size, k, none⟩) hG _)
            have R3 : Hid (Below w.heap.size w (wr.setCell ⟨w1.heap.size, k, none⟩ (.int .i64 (m' : Int))).drew) := (HB.out.setCell (p := ⟨w1.heap.size, k, none⟩) HB1.out.size _).drew
            clear hm'
            go_wp2_with fail
            go_region
            all_goals
              go_wp2
              go_roundw
              case rel => exact ⟨r + 1, m', by omega, by go_num, HN.out, R1.out, R2.out, R3.out⟩
              case measure => simp [intOf]; omega
          · obtain rfl : r = (predC l k).length := by omega
            have c1 := HI.out.at_ k hkl
            have z1 := HI.out.fz k
            rw [show tiF t k m k = (m : Int) by simp [tiF]] at c1
            have hmk := HMx.out.2.2
            have HN := hideIt (countsK_of HCt.out HMx.out)
            have R1 : Hid (IntB (wr.setCell ⟨w1.heap.size, k, none⟩ (.int .i64 ((m : Int) + 1))) w1.heap.size l.length (tiF (fun q => if q = k then m + 1 else t q) (k + 1) 0)) :=
              (HI.out.put hkl ((m : Int) + 1)).same fun q _ => by
                unfold tiF
                by_cases e : q = k
                · subst e; simp
                · by_cases e2 : q < k
                  · simp [e, e2, show q < k + 1 by omega]
                  · simp [e, e2, show ¬ q < k + 1 by omega]
            have R2 : Hid (SoTab l W2 (wr.setCell ⟨w1.heap.size, k, none⟩ (.int .i64 ((m : Int) + 1))) l.length [] vs) := HT.out.set (p := ⟨w1.heap.size, k, none⟩) hG _
            have R3 : Hid (Below w.heap.size w (wr.setCell ⟨w1.heap.size, k, none⟩ (.int .i64 ((m : Int) + 1)))) := HB.out.setCell (p := ⟨w1.heap.size, k, none⟩) HB1.out.size _
            go_wp2
            go_roundw
            case rel => exact ⟨k + 1, _, by omega, by go_num, HN.out, R1.out, R2.out, R3.out⟩
            case measure => simp [intOf]; omega
      · obtain rfl : k = l.length := by omega
        go_wp2
        go_ret2
        exact ⟨_, _, 0, -1, rfl, HCk.out, .inl ⟨rfl, rfl, rfl⟩, fun h => absurd rfl h, fun _ => ⟨_, t, rfl, HB1.out.size, countsT_of HCt.out, fun k hk => (HCt.out k hk).2.2.2, HI.out.same fun q hq => by simp [tiF, hq]⟩, HB.out⟩
  · obtain ⟨t', u', rfl⟩ := her.ne hn
    have HE := hideIt her
    clear her
    go_wp2
    go_ret2
    exact ⟨_, _, n, pl, rfl, HCk.out, HE.out, fun _ => rfl, fun h => absurd h hn, HB1.out⟩
end Go.Proofs.YtmonbkoelehdlaaDoor
