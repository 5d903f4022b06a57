/-
  Chapter 11.4 in plain Lean, the document's way: who is over when; what was taken back.
  The document's own 'over', walked: when a transaction is over.
-/
import Derived.Test.YtibdchahallbjabDoorEnMZ
namespace Go.Proofs.YtibdchahallbjabDoor

/-- Whether a transaction aborted between one of its writes and a step: of those that were looked at. -/
def goB (l : List Stp) (m j : Nat) : Bool := (List.range j).any fun q => (stZ l (m + q)).p == (stZ l m).p && (stZ l (m + q)).k == 4
theorem goB_succ (l : List Stp) (m j : Nat) : goB l m (j + 1) = (goB l m j || ((stZ l (m + j)).p == (stZ l m).p && (stZ l (m + j)).k == 4)) := by simp [goB, List.range_succ, List.any_append]
theorem goB_all {l : List Stp} (ok : OkS l) {m n : Nat} (hm : m < n) (hn : n ≤ l.length) : goB l m (n - m) = decide (endK l 4 (stZ l m).p < n) := by
  rw [Bool.eq_iff_iff, decide_eq_true_iff]
  unfold goB
  rw [List.any_eq_true]
  constructor
  · rintro ⟨q, hq, h⟩
    rw [List.mem_range] at hq
    simp at h
    rw [endK_at ok (by decide) (by omega : m + q < l.length) h.1 h.2]
    omega
  · intro h
    obtain ⟨h1, h2⟩ := endK_lt (Nat.lt_of_lt_of_le h hn)
    have hge : m ≤ endK l 4 (stZ l m).p := Classical.byContradiction fun hc => ok.over (j := endK l 4 (stZ l m).p) (k := m) (by omega) (by omega) (by rw [h2]; decide) h1
    refine ⟨endK l 4 (stZ l m).p - m, List.mem_range.2 (by omega), ?_⟩
    rw [show m + (endK l 4 (stZ l m).p - m) = endK l 4 (stZ l m).p by omega]
    simp [h1, h2]
/-- When a transaction is over. -/
def ovF (l : List Stp) (t : Int) (i : Nat) : Bool := (stZ l i).p == t && decide (2 < (stZ l i).k)
def ovN (l : List Stp) (t : Int) : Nat := (firstN (ovF l t) l.length).getD l.length
theorem ovF_iff {l : List Stp} {t : Int} {i : Nat} : ovF l t i = true ↔ (stZ l i).p = t ∧ 2 < (stZ l i).k := by simp [ovF]
theorem ovN_le (l : List Stp) (t : Int) : ovN l t ≤ l.length := by
  unfold ovN
  rcases firstN_cases (ovF l t) l.length with ⟨e, _⟩ | ⟨k, hk, e, _⟩
  · rw [e]; exact Nat.le_refl _
  · rw [e]; exact Nat.le_of_lt hk
theorem ovN_at {l : List Stp} {t : Int} (ok : OkS l) {j : Nat} (hj : j < l.length) (h1 : (stZ l j).p = t) (h2 : 2 < (stZ l j).k) : ovN l t = j := by
  unfold ovN
  rw [firstN_at hj (fun i hi => ?_) (ovF_iff.2 ⟨h1, h2⟩)]
  · rfl
  · cases e : ovF l t i
    · rfl
    · have h3 := ovF_iff.1 e
      exact absurd (h3.1.trans h1.symm) (ok.over hi hj h3.2)
theorem ovN_lt {l : List Stp} {t : Int} (h : ovN l t < l.length) : (stZ l (ovN l t)).p = t ∧ 2 < (stZ l (ovN l t)).k := by
  unfold ovN at h ⊢
  rcases firstN_cases (ovF l t) l.length with ⟨e, _⟩ | ⟨k, hk, e, hf, _⟩
  · rw [e] at h; simp at h
  · rw [e]; exact ovF_iff.1 hf
theorem ov_comm {l : List Stp} (ok : OkS l) {t : Int} (h : endK l 3 t < l.length) : ovN l t = endK l 3 t := by
  obtain ⟨h1, h2⟩ := endK_lt h
  exact ovN_at ok h h1 (by rw [h2]; decide)
theorem ov_lt {l : List Stp} (ok : OkS l) {t : Int} {n : Nat} (hn : n ≤ l.length) (h4 : ¬ endK l 4 t < n) : ovN l t < n ↔ endK l 3 t < n := by
  constructor
  · intro h
    obtain ⟨h1, h2⟩ := ovN_lt (Nat.lt_of_lt_of_le h hn)
    have hl := Nat.lt_of_lt_of_le h hn
    have hk := ok.kind hl
    rcases (by omega : (stZ l (ovN l t)).k = 3 ∨ (stZ l (ovN l t)).k = 4) with h3 | h3
    · rw [endK_at ok (by decide) hl h1 h3]; exact h
    · rw [endK_at ok (by decide) hl h1 h3] at h4; exact absurd h h4
  · intro h
    rw [ov_comm ok (Nat.lt_of_lt_of_le h hn)]; exact h
theorem commB_end {l : List Stp} {t : Int} (ht : 0 ≤ t ∧ t ≤ 7) : commB l t = decide (endK l 3 t < l.length) := by
  rw [Bool.eq_iff_iff, decide_eq_true_iff]
  unfold commB
  rw [decide_eq_true ht.1, decide_eq_true (by omega : t < 8), Bool.true_and, Bool.true_and, List.any_eq_true]
  constructor
  · rintro ⟨s, hs, h⟩
    obtain ⟨i, hi, rfl⟩ := List.getElem_of_mem hs
    refine Classical.byContradiction fun hc => ?_
    have e : endK l 3 t = l.length := by have := endK_le l 3 t; omega
    unfold endK at e
    rcases firstN_cases (endF l 3 t) l.length with ⟨_, hno⟩ | ⟨k, hk, e2, _⟩
    · have := hno i hi
      unfold endF at this
      rw [stZ_at hi, h] at this
      cases this
    · rw [e2] at e; simp at e; omega
  · intro h
    obtain ⟨h1, h2⟩ := endK_lt h
    rw [stZ_at h] at h1 h2
    exact ⟨_, List.getElem_mem h, by simp [h1, h2]⟩
/-- Who is read and does not commit ahead: the document's way. -/
theorem doc_rec {l : List Stp} (ok : OkS l) {p t : Int} (hp : 0 ≤ p ∧ p ≤ 7) (ht : 0 ≤ t ∧ t ≤ 7) : (commB l p && (!commB l t || decide (ovN l p < ovN l t))) = decide (endK l 3 p < endK l 3 t) := by
  rw [commB_end hp, commB_end ht]
  have h1 := endK_le l 3 p
  have h2 := endK_le l 3 t
  by_cases c1 : endK l 3 p < l.length
  · by_cases c2 : endK l 3 t < l.length
    · rw [ov_comm ok c1, ov_comm ok c2]; simp [c1, c2]
    · rw [decide_eq_true c1, decide_eq_false c2, decide_eq_true (by omega : endK l 3 p < endK l 3 t)]; rfl
  · rw [decide_eq_false c1, decide_eq_false (by omega : ¬ endK l 3 p < endK l 3 t)]; rfl
/-- Whose write a step finds, as the document looks for it: -1, if there is none. -/
def fwV (l : List Stp) (n : Nat) : Int := match lastN (findW l n) n with
  | some m => (stZ l m).p
  | none => -1
theorem fwV_none {l : List Stp} {n : Nat} (h : ∀ j, j < n → findW l n j = false) : fwV l n = -1 := by unfold fwV; rw [lastN_no h]
theorem fwV_at {l : List Stp} {n m : Nat} (hm : m < n) (hf : findW l n m = true) (h : ∀ j, m < j → j < n → findW l n j = false) : fwV l n = (stZ l m).p := by unfold fwV; rw [lastN_at hf hm h]
theorem open_fw {l : List Stp} (ok : OkS l) {n : Nat} (hn : n < l.length) (hk : ¬ 2 < (stZ l n).k) :
    (fwV l n = -1 ∧ openW l n = none) ∨ (0 ≤ fwV l n ∧ fwV l n ≤ 7 ∧ openW l n = if fwV l n = (stZ l n).p ∨ ovN l (fwV l n) < n then none else some (fwV l n)) := by
  unfold fwV openW
  rw [if_neg hk]
  cases h : lastN (findW l n) n with
  | none => exact .inl ⟨rfl, rfl⟩
  | some m =>
    obtain ⟨h1, h2, _⟩ := lastN_some h
    have htx := ok.tx (Nat.lt_trans h1 hn)
    refine .inr ⟨htx.1, htx.2, ?_⟩
    have h4 : ¬ endK l 4 (stZ l m).p < n := by
      unfold findW at h2
      simp at h2
      omega
    simp only [ov_lt ok (Nat.le_of_lt hn) h4]
end Go.Proofs.YtibdchahallbjabDoor

namespace Go.Proofs.YtibdchahallbjabDoor
open Go.RowKit

set_option maxRecDepth 100000 in
set_option maxHeartbeats 4000000 in
theorem over_any (l : List Stp) (a : Option Addr) (cap Bx : Nat) (t : Int) (w : World) (hn : l.length ≤ 100) (hl : StpsQ w a l) (hB : w.cell? ⟨Bx, 0, none⟩ = some (.slice a l.length cap)) :
    Calls Tryd.prog 43 #[.int .i64 t, .pointer (some ⟨Bx, 0, none⟩)] w fun e w' => e = .returned (.int .i64 (ovN l t : Nat)) ∧ Below w.heap.size w w' := by
  have HL := hideIt hl
  have hBl := World.block_lt_of_cell? w _ hB
  have HBx := hideIt hB
  have HAll : Hid ((∀ j, j < l.length → ovF l t j = false) → ovN l t = l.length) := fun h => by unfold ovN; rw [firstN_none h]; rfl
  have HAt : Hid (∀ k, k < l.length → (∀ j, j < k → ovF l t j = false) → ovF l t k = true → ovN l t = k) := fun k hk h1 h2 => by unfold ovN; rw [firstN_at hk h1 h2]; rfl
  generalize ovN l t = o at HAll HAt ⊢
  clear hl
  go_enter Tryd.func43, Tryd.ntmps43
  go_wp2
  clear hB
  go_loopw [8] (fun v wr => ∃ k : Nat, k ≤ l.length ∧ v = .int .i64 k ∧ (∀ j, j < k → ovF l t j = false) ∧ Below w.heap.size w wr) (fun v _ => l.length - (intOf v).toNat)
  case atStart => exact ⟨0, Nat.zero_le _, rfl, fun j hj => absurd hj (by omega), Below.refl _ _⟩
  case round =>
    obtain ⟨k, hk, rfl, hno, hb⟩ := hrel
    have HNo := hideIt hno
    have HB := hideIt hb
    clear hno hb
    by_cases hkl : k < l.length
    · obtain ⟨b, off, rfl, hlt, hst⟩ : ∃ b off, a = some ⟨b, off, none⟩ ∧ b < w.heap.size ∧ StpsAt w b off l := by
        rcases HL.out with h | h
        · subst h; simp at hkl
        · exact h
      obtain ⟨c0, c1, c2⟩ := (hst k hkl).below hlt HB.out
      have hkl' : (k : Int) < l.length := by omega
      have HF : Hid (ovF l t k = ((stZ l k).p == t && decide (2 < (stZ l k).k))) := rfl
      rw [stZ_at hkl] at HF
      generalize l[k] = x at c0 c1 c2 HF
      have HB2 : Hid (Below w.heap.size w (wr.alloc (.cells #[.int .i64 x.p, .int .i64 x.k, .int .i64 x.m] 62))) := belA HB.out _
      have HN : Hid (ovF l t k = false → ∀ j, j < k + 1 → ovF l t j = false) := fun h j hj => by
        by_cases e : j = k
        · subst e; exact h
        · exact HNo.out j (by omega)
      have HY : Hid (ovF l t k = true → o = k) := HAt.out k hkl HNo.out
      clear hst HB HNo HAll HAt
      generalize ovF l t k = fv at HF HN HY
      by_cases g1 : x.p = t
      · have d1 : (x.p == t) = true := by simp [g1]
        by_cases g2 : 2 < x.k
        · obtain rfl := HY.out (by rw [HF.out, d1, decide_eq_true g2]; rfl)
          clear g1 HF HN HY
          go_wp2
          go_ret
          exact ⟨rfl, HB2.out⟩
        · have R := hideIt (HN.out (by rw [HF.out, decide_eq_false g2, Bool.and_false]))
          have g2' : x.k ≤ 2 := by omega
          clear g1 HF HN HY
          go_wp2
          go_roundw
          case rel => exact ⟨k + 1, by omega, by go_num, R.out, HB2.out⟩
          case measure => simp [intOf]; omega
      · have d1 : (x.p == t) = false := by simp [g1]
        have R := hideIt (HN.out (by rw [HF.out, d1, Bool.false_and]))
        clear g1 HF HN HY
        go_wp2
        go_roundw
        case rel => exact ⟨k + 1, by omega, by go_num, R.out, HB2.out⟩
        case measure => simp [intOf]; omega
    · obtain rfl : k = l.length := by omega
      obtain rfl := HAll.out HNo.out
      have hB := (HB.out.cell (p := ⟨Bx, 0, none⟩) hBl).trans HBx.out
      go_wp2
      go_ret
      exact ⟨rfl, HB.out⟩
end Go.Proofs.YtibdchahallbjabDoor
