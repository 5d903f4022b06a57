/-
  Rows of numbers in memory: a matrix that is one's own; the stages of a pass of shortest ways.
  The program's 'shorten', walked.
  The program's 'distances', walked: over how many roads each node leads to each.
-/
import Derived.Test.YtaopigjhdkdklaaDoorGoWZ
import Derived.Test.YtaopigjhdkdklaaDoorGhPZ
import Derived.Deep.DeepCutAuto
import Derived.Deep.CutBlock
import Derived.RegionTactic
namespace Go.Proofs.YtaopigjhdkdklaaDoor
open Go.RowKit

/-- A row of numbers in a block of its own. -/
structure NumsAt (w : World) (g n : Nat) (f : Nat → Nat) : Prop where
  blk : ∃ cur, w.heap[g]? = some (.cells cur 3 (0, 0))
  num : ∀ k, k < n → w.cell? ⟨g, k, none⟩ = some (.int .i64 ((f k : Nat) : Int))
theorem NumsAt.lt {w : World} {g n : Nat} {f : Nat → Nat} (h : NumsAt w g n f) : g < w.heap.size := by
  obtain ⟨cur, hc⟩ := h.blk
  exact lt_of_heap hc
theorem NumsAt.fz {w : World} {g n : Nat} {f : Nat → Nat} (h : NumsAt w g n f) (i : Nat) : w.frozen? ⟨g, i, none⟩ = false := by
  obtain ⟨cur, hc⟩ := h.blk
  exact frozen_of_row w g i cur 3 hc
theorem NumsAt.block {w w' : World} {g n : Nat} {f : Nat → Nat} (h : NumsAt w g n f) (hb : w'.heap[g]? = w.heap[g]?) : NumsAt w' g n f := by
  obtain ⟨cur, hc⟩ := h.blk
  exact ⟨⟨cur, hb.trans hc⟩, fun k hk => (World.cell?_of_block (a := ⟨g, k, none⟩) hb).trans (h.num k hk)⟩
theorem NumsAt.below {B : Nat} {w w' : World} {g n : Nat} {f : Nat → Nat} (h : NumsAt w g n f) (hb : Below B w w') (hg : g < B) : NumsAt w' g n f := h.block (hb.block g hg)
theorem NumsAt.same {w : World} {g n : Nat} {f f' : Nat → Nat} (h : NumsAt w g n f) (e : ∀ k, k < n → f k = f' k) : NumsAt w g n f' := ⟨h.blk, fun k hk => by rw [← e k hk]; exact h.num k hk⟩
theorem NumsAt.put {w : World} {g n : Nat} {f : Nat → Nat} (h : NumsAt w g n f) {m : Nat} (hm : m < n) (x : Nat) : NumsAt (w.setCell ⟨g, m, none⟩ (.int .i64 ((x : Nat) : Int))) g n (fun k => if k = m then x else f k) := by
  obtain ⟨cur, hc⟩ := h.blk
  obtain ⟨cur', hc', _⟩ := heap_setCell hc m (.int .i64 ((x : Nat) : Int))
  refine ⟨⟨cur', hc'⟩, fun k hk => ?_⟩
  by_cases e : k = m
  · subst e
    rw [if_pos rfl]
    exact World.cell?_setCell_same _ _ _ (h.num k hk)
  · rw [if_neg e, World.cell?_setCell_other _ _ _ _ (offNe (Ne.symm e))]
    exact h.num k hk
theorem NumsAt.other {w : World} {g n : Nat} {f : Nat → Nat} (h : NumsAt w g n f) {p : Addr} (hp : g ≠ p.block) (u : Value) : NumsAt (w.setCell p u) g n f := h.block (Below.heap_setCell w p u g hp)

theorem info26N : (Tryd.prog.info? 52).map (fun i => (i.zero, i.size, i.bytes)) = some (some (.slice none 0 0), 1, 24) := by kernel_rfl
theorem made_nums (w : World) (n : Nat) (hn : n ≤ 60) : (Instr.makeSlice 52 (.int .i64 (n : Int)) (.int .i64 (n : Int))).run Tryd.prog w = .ok (.slice (some ⟨w.heap.size, 0, none⟩) n n) (w.alloc (.cells (madeCells #[.int .i64 0] n) 3)) := by
  obtain ⟨i, hi, hz, hs, hb⟩ := info_parts' info3
  have := run_make (P := Tryd.prog) w 52 3 i (.int .i64 0) Tryd.underlying52 hi hz .i64 .i64 (n : Int) (n : Int) (by omega) (Int.le_refl _) (by rw [hb]; omega) (by omega)
  have e : (Value.int .i64 0).cells = #[.int .i64 0] := rfl
  rw [e] at this
  simpa [hs] using this
theorem made_lists (w : World) (n : Nat) (hn : n ≤ 60) : (Instr.makeSlice 42 (.int .i64 (n : Int)) (.int .i64 (n : Int))).run Tryd.prog w = .ok (.slice (some ⟨w.heap.size, 0, none⟩) n n) (w.alloc (.cells (madeCells #[.slice none 0 0] n) 52)) := by
  obtain ⟨i, hi, hz, hs, hb⟩ := info_parts' info26N
  have := run_make (P := Tryd.prog) w 42 52 i (.slice none 0 0) Tryd.underlying42 hi hz .i64 .i64 (n : Int) (n : Int) (by omega) (Int.le_refl _) (by rw [hb]; omega) (by omega)
  have e : (Value.slice none 0 0).cells = #[.slice none 0 0] := rfl
  rw [e] at this
  simpa [hs] using this
theorem nums_made (w : World) (n : Nat) : NumsAt (w.alloc (.cells (madeCells #[.int .i64 0] n) 3)) w.heap.size n (fun _ => 0) :=
  ⟨⟨_, heap_alloc_new w _⟩, fun k hk => cell_made w (.int .i64 0) n 3 k hk⟩

/-- A matrix of numbers: its first m rows are laid; all its blocks lie from base on. -/
structure NumM (w : World) (base B n m : Nat) (rb : Nat → Nat) (M : Nat → Nat → Nat) : Prop where
  blk : ∃ cur, w.heap[B]? = some (.cells cur 52 (0, 0))
  lo : base ≤ B
  room : ∀ i, i < n → ∃ v, w.cell? ⟨B, i, none⟩ = some v
  few : m ≤ n
  head : ∀ i, i < m → w.cell? ⟨B, i, none⟩ = some (.slice (some ⟨rb i, 0, none⟩) n n)
  row : ∀ i, i < m → NumsAt w (rb i) n (M i)
  from_ : ∀ i, i < m → base ≤ rb i ∧ rb i ≠ B
  inj : ∀ i j, i < m → j < m → rb i = rb j → i = j

section
variable {w : World} {base B n m : Nat} {rb : Nat → Nat} {M : Nat → Nat → Nat}
theorem NumM.lt (h : NumM w base B n m rb M) : B < w.heap.size := by
  obtain ⟨cur, hc⟩ := h.blk
  exact lt_of_heap hc
theorem NumM.fz (h : NumM w base B n m rb M) (i : Nat) : w.frozen? ⟨B, i, none⟩ = false := by
  obtain ⟨cur, hc⟩ := h.blk
  exact frozen_of_row w B i cur 52 hc
theorem NumM.below {w' : World} (h : NumM w base B n m rb M) (hb : Below w.heap.size w w') : NumM w' base B n m rb M := by
  obtain ⟨cur, hc⟩ := h.blk
  have hB := h.lt
  have hcell : ∀ i, w'.cell? ⟨B, i, none⟩ = w.cell? ⟨B, i, none⟩ := fun i => hb.cell (p := ⟨B, i, none⟩) hB
  exact ⟨⟨cur, (hb.block B hB).trans hc⟩, h.lo, fun i hi => by rw [hcell]; exact h.room i hi, h.few, fun i hi => by rw [hcell]; exact h.head i hi, fun i hi => (h.row i hi).below hb (h.row i hi).lt, h.from_, h.inj⟩
theorem NumM.alloc (h : NumM w base B n m rb M) (o : Obj) : NumM (w.alloc o) base B n m rb M := h.below ((Below.refl _ _).alloc (Nat.le_refl _) o)
theorem NumM.drew (h : NumM w base B n m rb M) : NumM w.drew base B n m rb M := h.below (Below.refl _ _).drew
theorem NumM.same {M' : Nat → Nat → Nat} (h : NumM w base B n m rb M) (e : ∀ i k, i < m → k < n → M i k = M' i k) : NumM w base B n m rb M' :=
  ⟨h.blk, h.lo, h.room, h.few, h.head, fun i hi => (h.row i hi).same fun k hk => e i k hi hk, h.from_, h.inj⟩
theorem NumM.mono {base' : Nat} (h : NumM w base B n m rb M) (hb : base' ≤ base) : NumM w base' B n m rb M :=
  ⟨h.blk, Nat.le_trans hb h.lo, h.room, h.few, h.head, h.row, fun i hi => ⟨Nat.le_trans hb (h.from_ i hi).1, (h.from_ i hi).2⟩, h.inj⟩
theorem NumM.put (h : NumM w base B n m rb M) {i k : Nat} (hi : i < m) (hk : k < n) (x : Nat) :
    NumM (w.setCell ⟨rb i, k, none⟩ (.int .i64 ((x : Nat) : Int))) base B n m rb (fun a b => if a = i ∧ b = k then x else M a b) := by
  obtain ⟨cur, hc⟩ := h.blk
  have hne := (h.from_ i hi).2
  have hcell : ∀ j, (w.setCell ⟨rb i, k, none⟩ (.int .i64 ((x : Nat) : Int))).cell? ⟨B, j, none⟩ = w.cell? ⟨B, j, none⟩ := fun j => World.cell?_setCell_other _ _ _ _ (blkNe hne)
  refine ⟨⟨cur, (Below.heap_setCell w _ _ B (Ne.symm hne)).trans hc⟩, h.lo, fun j hj => by rw [hcell]; exact h.room j hj, h.few, fun j hj => by rw [hcell]; exact h.head j hj, fun j hj => ?_, h.from_, h.inj⟩
  by_cases e : j = i
  · subst e
    exact ((h.row j hj).put hk x).same fun b hb => by simp
  · exact ((h.row j hj).other (p := ⟨rb i, k, none⟩) (fun e' => e (h.inj j i hj hi e')) _).same fun b hb => by simp [e]
/-- One row more: a new block, its head stored. -/
theorem NumM.add (h : NumM w base B n m rb M) {g : Nat} {f : Nat → Nat} (hm : m < n) (hg : NumsAt w g n f) (hb : base ≤ g) (hne : g ≠ B) (hnew : ∀ i, i < m → rb i ≠ g) :
    NumM (w.setCell ⟨B, m, none⟩ (.slice (some ⟨g, 0, none⟩) n n)) base B n (m + 1) (fun i => if i = m then g else rb i) (fun i => if i = m then f else M i) := by
  obtain ⟨cur, hc⟩ := h.blk
  obtain ⟨cur', hc', _⟩ := heap_setCell hc m (.slice (some ⟨g, 0, none⟩) n n)
  have hs : (w.setCell ⟨B, m, none⟩ (.slice (some ⟨g, 0, none⟩) n n)).cell? ⟨B, m, none⟩ = some (.slice (some ⟨g, 0, none⟩) n n) := by
    obtain ⟨v, hv⟩ := h.room m hm
    exact World.cell?_setCell_same _ _ _ hv
  have ho : ∀ i, i ≠ m → (w.setCell ⟨B, m, none⟩ (.slice (some ⟨g, 0, none⟩) n n)).cell? ⟨B, i, none⟩ = w.cell? ⟨B, i, none⟩ := fun i hi => World.cell?_setCell_other _ _ _ _ (offNe (Ne.symm hi))
  refine ⟨⟨cur', hc'⟩, h.lo, fun i hi => ?_, hm, fun i hi => ?_, fun i hi => ?_, fun i hi => ?_, fun i j hi hj => ?_⟩
  · by_cases e : i = m
    · subst e; exact ⟨_, hs⟩
    · rw [ho i e]; exact h.room i hi
  · by_cases e : i = m
    · subst e; rw [hs, if_pos rfl]
    · rw [ho i e, if_neg e]; exact h.head i (by omega)
  · by_cases e : i = m
    · subst e; simp only [if_pos]; exact hg.other (p := ⟨B, i, none⟩) hne _
    · simp only [if_neg e]; exact (h.row i (by omega)).other (p := ⟨B, m, none⟩) (h.from_ i (by omega)).2 _
  · by_cases e : i = m
    · simp only [e, if_true]; exact ⟨hb, hne⟩
    · simp only [if_neg e]; exact h.from_ i (by omega)
  · by_cases e : i = m
    · by_cases e' : j = m
      · intro _; omega
      · simp only [e, if_true, if_neg e']; exact fun k => absurd k.symm (hnew j (by omega))
    · by_cases e' : j = m
      · simp only [e', if_true, if_neg e]; exact fun k => absurd k (hnew i (by omega))
      · simp only [if_neg e, if_neg e']; exact h.inj i j (by omega) (by omega)
end
theorem numM_made (w : World) (n : Nat) : NumM (w.alloc (.cells (madeCells #[.slice none 0 0] n) 52)) w.heap.size w.heap.size n 0 (fun _ => 0) (fun _ _ => 0) :=
  ⟨⟨_, heap_alloc_new w _⟩, Nat.le_refl _, fun i hi => ⟨_, cell_made w _ n _ i hi⟩, Nat.zero_le _, fun i hi => absurd hi (by omega), fun i hi => absurd hi (by omega), fun i hi => absurd hi (by omega), fun i j hi => absurd hi (by omega)⟩


/-! ### the stages of a pass -/
def stgF (D : Nat → Nat → Nat) (t i b : Nat) : Nat → Nat → Nat := fun a k => if a < i ∨ (a = i ∧ k < b) then fwS D t a k else D a k
theorem stgF_next (D : Nat → Nat → Nat) (t i b : Nat) : stgF D t i b t b = D t b := by
  unfold stgF
  split
  · exact fwS_row D t b
  · rfl
theorem stgF_own (D : Nat → Nat → Nat) (t i b : Nat) : stgF D t i b i b = D i b := by
  unfold stgF
  rw [if_neg (by omega)]
theorem stgF_col (D : Nat → Nat → Nat) (t i b : Nat) : stgF D t i b i t = D i t := by
  unfold stgF
  split
  · exact fwS_col D t i
  · rfl
theorem stgF_put {D : Nat → Nat → Nat} {t i b x : Nat} (h : fwS D t i b = x) (a k : Nat) : (if a = i ∧ k = b then x else stgF D t i b a k) = stgF D t i (b + 1) a k := by
  unfold stgF
  by_cases e : a = i ∧ k = b
  · obtain ⟨rfl, rfl⟩ := e
    rw [if_pos ⟨rfl, rfl⟩, if_pos (.inr ⟨rfl, by omega⟩), h]
  · rw [if_neg e]
    by_cases e' : a < i ∨ (a = i ∧ k < b)
    · rw [if_pos e', if_pos (by omega)]
    · rw [if_neg e', if_neg (by omega)]
theorem stgF_leave {D : Nat → Nat → Nat} {t i b : Nat} (h : fwS D t i b = D i b) (a k : Nat) : stgF D t i b a k = stgF D t i (b + 1) a k := by
  rw [← stgF_put (x := D i b) h a k]
  by_cases e : a = i ∧ k = b
  · rw [if_pos e, e.1, e.2]; exact stgF_own D t i b
  · rw [if_neg e]
theorem stgF_skip {D : Nat → Nat → Nat} {t i : Nat} (h : D i t = 0) (a k : Nat) : stgF D t i 0 a k = stgF D t (i + 1) 0 a k := by
  unfold stgF
  by_cases e : a = i
  · subst e
    rw [if_neg (by omega), if_pos (by omega)]
    unfold fwS
    rw [h, if_neg (by omega)]
  · by_cases e' : a < i
    · rw [if_pos (.inl e'), if_pos (by omega)]
    · rw [if_neg (by omega), if_neg (by omega)]
theorem stgF_end {D : Nat → Nat → Nat} {t i n : Nat} (a k : Nat) (hk : k < n) : stgF D t i n a k = stgF D t (i + 1) 0 a k := by
  unfold stgF
  by_cases e : a < i + 1
  · rw [if_pos (by omega), if_pos (.inl e)]
  · rw [if_neg (by omega), if_neg (by omega)]
theorem stgF_all {D : Nat → Nat → Nat} {t n : Nat} (a k : Nat) (ha : a < n) : stgF D t n 0 a k = fwS D t a k := by
  unfold stgF
  rw [if_pos (.inl ha)]
theorem stgF_zero (D : Nat → Nat → Nat) (t a k : Nat) : stgF D t 0 0 a k = D a k := by
  unfold stgF
  rw [if_neg (by omega)]
end Go.Proofs.YtaopigjhdkdklaaDoor

namespace Go.Proofs.YtaopigjhdkdklaaDoor
open Go.RowKit

theorem fwS_val (D : Nat → Nat → Nat) (t i k : Nat) (h0 : 0 < D i t) : fwS D t i k = if D t k = 0 then D i k else if D i k = 0 then D i t + D t k else if D i t + D t k < D i k then D i t + D t k else D i k := by
  unfold fwS
  by_cases h1 : D t k = 0
  · rw [if_pos h1, if_neg (by omega)]
  · rw [if_neg h1]
    by_cases h2 : D i k = 0
    · rw [if_pos h2, if_pos (by omega)]
    · rw [if_neg h2]
      by_cases h3 : D i t + D t k < D i k
      · rw [if_pos h3, if_pos (by omega)]
      · rw [if_neg h3, if_neg (by omega)]

set_option maxRecDepth 100000 in
set_option maxHeartbeats 4000000 in
theorem shorten_any (n t i : Nat) (D : Nat → Nat → Nat) (hn : n ≤ 40) (ht : t < n) (hi : i < n) (h0 : 0 < D i t) (hD : ∀ a b, D a b ≤ 1099511627776) (base B : Nat) (rb : Nat → Nat) (w0 w : World) (hM : NumM w base B n n rb (stgF D t i 0)) (hb : Below base w0 w) :
    Calls Tryd.prog 93 #[.slice (some ⟨rb i, 0, none⟩) n n, .slice (some ⟨rb t, 0, none⟩) n n, .int .i64 ((D i t : Nat) : Int)] w fun e w' => e = .returned (.tuple #[]) ∧ NumM w' base B n n rb (stgF D t i n) ∧ Below base w0 w' := by
  have HM := hideIt hM
  have HB := hideIt hb
  have HD := hideIt hD
  have HV := hideIt (fwS_val D t i · h0)
  have hd0 := hD i t
  obtain ⟨d0, HD0⟩ : ∃ d0, Hid (D i t = d0) := ⟨_, hideIt rfl⟩
  rw [HD0.out] at h0 hd0 ⊢
  clear hM hb hD
  go_enter Tryd.func93, Tryd.ntmps93
  go_wp2
  go_loopw [10] (fun v wr => ∃ k : Nat, k ≤ n ∧ v = .int .i64 k ∧ NumM wr base B n n rb (stgF D t i k) ∧ Below base w0 wr) (fun v _ => n - (intOf v).toNat)
  case atStart => exact ⟨0, Nat.zero_le _, rfl, HM.out, HB.out⟩
  case round =>
    clear HM HB
    obtain ⟨k, hk, rfl, hM, hb⟩ := hrel
    have HM := hideIt hM
    have HB := hideIt hb
    clear hM hb
    by_cases hkn : k < n
    · have hkn' : (k : Int) < n := by omega
      have ct := (HM.out.row t ht).num k hkn
      have ci := (HM.out.row i hi).num k hkn
      have zi := (HM.out.row i hi).fz k
      rw [stgF_next] at ct
      rw [stgF_own] at ci
      have hv := HV.out k
      have b1 := HD.out t k
      have b2 := HD.out i k
      have hbi := (HM.out.from_ i hi).1
      rw [HD0.out] at hv
      have HPut : Hid (∀ x : Nat, fwS D t i k = x → NumM (wr.setCell ⟨rb i, k, none⟩ (.int .i64 (x : Int))) base B n n rb (stgF D t i (k + 1)) ∧ Below base w0 (wr.setCell ⟨rb i, k, none⟩ (.int .i64 (x : Int)))) := fun x hx =>
        ⟨(HM.out.put hi hkn x).same fun a b _ _ => stgF_put hx a b, HB.out.setCell (p := ⟨rb i, k, none⟩) hbi _⟩
      have HLv : Hid (fwS D t i k = D i k → NumM wr base B n n rb (stgF D t i (k + 1))) := fun hx => HM.out.same fun a b _ _ => stgF_leave hx a b
      generalize fwS D t i k = fv at hv HPut HLv
      generalize D t k = d2 at ct hv b1
      generalize D i k = d1 at ci hv b2 HLv
      clear HV HD
      by_cases e2 : d2 = 0
      · subst e2
        rw [if_pos rfl] at hv
        have R1 := hideIt (HLv.out hv)
        clear HPut HLv hv
        go_wp2
        go_roundw
        case rel => exact ⟨k + 1, by omega, by go_num, R1.out, HB.out⟩
        case measure => simp [intOf]; omega
      · rw [if_neg e2] at hv
        have e2' : (0 : Int) < d2 := by omega
        by_cases e1 : d1 = 0
        · subst e1
          rw [if_pos rfl] at hv
          have R1 := hideIt (HPut.out _ hv)
          rw [Int.natCast_add] at R1
          clear HPut HLv hv
          go_wp2
          go_roundw
          case rel => exact ⟨k + 1, by omega, by go_num, R1.out⟩
          case measure => simp [intOf]; omega
        · rw [if_neg e1] at hv
          have e1' : ¬ (d1 : Int) = 0 := by omega
          by_cases e3 : d0 + d2 < d1
          · rw [if_pos e3] at hv
            have e3' : (d0 : Int) + d2 < d1 := by omega
            have R1 := hideIt (HPut.out _ hv)
            rw [Int.natCast_add] at R1
            clear HPut HLv hv
            go_wp2
            go_roundw
            case rel => exact ⟨k + 1, by omega, by go_num, R1.out⟩
            case measure => simp [intOf]; omega
          · rw [if_neg e3] at hv
            have e3' : ¬ (d0 : Int) + d2 < d1 := by omega
            have R1 := hideIt (HLv.out hv)
            clear HPut HLv hv
            go_wp2
            go_roundw
            case rel => exact ⟨k + 1, by omega, by go_num, R1.out, HB.out⟩
            case measure => simp [intOf]; omega
    · obtain rfl : k = n := by omega
      go_wp2
      go_end0
      exact ⟨rfl, HM.out, HB.out⟩
end Go.Proofs.YtaopigjhdkdklaaDoor

namespace Go.Proofs.YtaopigjhdkdklaaDoor
open Go.RowKit

def midD (D : Nat → Nat → Nat) (m k : Nat) : Nat → Nat → Nat := fun a b => if a = m ∧ k ≤ b then 0 else D a b
theorem midD_put (D : Nat → Nat → Nat) (m k x : Nat) (h : D m k = x) (a b : Nat) : (if a = m ∧ b = k then x else midD D m k a b) = midD D m (k + 1) a b := by
  unfold midD
  by_cases e : a = m ∧ b = k
  · obtain ⟨rfl, rfl⟩ := e
    rw [if_pos ⟨rfl, rfl⟩, if_neg (by omega), h]
  · rw [if_neg e]
    by_cases e' : a = m ∧ k + 1 ≤ b
    · rw [if_pos (by omega), if_pos e']
    · rw [if_neg (by omega), if_neg e']
theorem midD_zero (D : Nat → Nat → Nat) (m k : Nat) (h : D m k = 0) (a b : Nat) : midD D m k a b = midD D m (k + 1) a b := by
  rw [← midD_put D m k 0 h a b]
  by_cases e : a = m ∧ b = k
  · rw [if_pos e]
    unfold midD
    rw [if_pos (by omega)]
  · rw [if_neg e]
theorem midD_end (D : Nat → Nat → Nat) (m n a b : Nat) (hb : b < n) : midD D m n a b = D a b := by
  unfold midD
  rw [if_neg (by omega)]
theorem fwD_zero (g : Nat → Nat → Bool) (i k : Nat) : fwD g 0 i k = if g i k = true then 1 else 0 := rfl
theorem NumM.base_lt {w : World} {base B n m : Nat} {rb : Nat → Nat} {M : Nat → Nat → Nat} (h : NumM w base B n m rb M) : base < w.heap.size := Nat.lt_of_le_of_lt h.lo h.lt

set_option maxRecDepth 100000 in
set_option maxHeartbeats 8000000 in
theorem distances_any (R : List (List Bool)) (ok : ckG R = 0) (a : Option Addr) (cap : Nat) (w : World) (hg : GrQ w a R) :
    Calls Tryd.prog 81 #[.slice a R.length cap] w fun e w' => ∃ B rb, e = .returned (.slice (some ⟨B, 0, none⟩) R.length R.length) ∧ NumM w' w.heap.size B R.length R.length rb (farG (gB R) R.length) ∧ Below w.heap.size w w' := by
  have h40 := (ckG_ok ok).1
  have hmk := made_lists w R.length (by omega)
  have HM0 := hideIt (numM_made w R.length)
  have HB0 : Hid (Below w.heap.size w (w.alloc (.cells (madeCells #[.slice none 0 0] R.length) 52))) := belA (Below.refl _ _) _
  have HAt : Hid (∀ W, Below w.heap.size w W → ∀ i, i < R.length → ∃ b off, a = some ⟨b, off, none⟩ ∧ b < w.heap.size ∧ ∃ rb ro rc, W.cell? ⟨b, off + i, none⟩ = some (.slice (some ⟨rb, ro, none⟩) R.length rc) ∧ R.length ≤ rc ∧ rb < w.heap.size ∧ ∀ k, k < R.length → W.cell? ⟨rb, ro + k, none⟩ = some (.bool (gB R i k))) := fun W hW i hi => by
    obtain ⟨b, off, e, hb, rb, ro, rc, h1, h2, h3, h4⟩ := hg.at ok hi
    exact ⟨b, off, e, hb, rb, ro, rc, (hW.cell (p := ⟨b, off + i, none⟩) hb).trans h1, h2, h3, fun k hk => (hW.cell (p := ⟨rb, ro + k, none⟩) h3).trans (h4 k hk)⟩
  have HMost : Hid (∀ t, t ≤ R.length → ∀ i k, fwD (gB R) t i k ≤ 1099511627776) := fun t ht i k => Nat.le_trans (fwD_most t i k) (Nat.le_trans (Nat.pow_le_pow_right (by decide) (show t ≤ 40 by omega)) (by decide))
  clear hg ok
  unfold farG
  generalize gB R = g at HAt HMost ⊢
  generalize R.length = n at *
  go_enter Tryd.func81, Tryd.ntmps81
  go_wp2
  clear hmk
  generalize w.alloc _ = W0 at HB0 HM0 ⊢
  go_loopw [16] (fun v wr => ∃ (m : Nat) (rb : Nat → Nat), m ≤ n ∧ v = .int .i64 m ∧ NumM wr w.heap.size w.heap.size n m rb (fwD g 0) ∧ Below w.heap.size w wr) (fun v _ => n - (intOf v).toNat)
  case atStart => exact ⟨0, _, Nat.zero_le _, rfl, HM0.out.same fun i k hi => absurd hi (by omega), HB0.out⟩
  case round =>
    clear HM0 HB0
    obtain ⟨m, rb, hm, rfl, hM, hb⟩ := hrel
    have HM := hideIt hM
    have HB := hideIt hb
    clear hM hb
    by_cases hmn : m < n
    · have hmn' : (m : Int) < n := by omega
      obtain ⟨b, off, rfl, hbl, gb, go, gc, r0, _, hgl, hr⟩ := HAt.out wr HB.out m hmn
      have hmk := made_nums wr n (by omega)
      have HM1 := hideIt (HM.out.alloc (.cells (madeCells #[.int .i64 0] n) 3))
      have HN1 := hideIt (nums_made wr n)
      have hBl := HM.out.lt
      have hBs := HB.out.size
      have hroom := HM1.out.room m hmn
      obtain ⟨ov, hov⟩ := hroom
      have hfz := HM1.out.fz m
      have HB1 : Hid (Below w.heap.size w ((wr.alloc (.cells (madeCells #[.int .i64 0] n) 3)).setCell ⟨w.heap.size, m, none⟩ (.slice (some ⟨wr.heap.size, 0, none⟩) n n))) := (belA HB.out _).setCell (p := ⟨w.heap.size, m, none⟩) (Nat.le_refl _) _
      have HM2 : Hid (NumM ((wr.alloc (.cells (madeCells #[.int .i64 0] n) 3)).setCell ⟨w.heap.size, m, none⟩ (.slice (some ⟨wr.heap.size, 0, none⟩) n n)) w.heap.size w.heap.size n (m + 1) (fun i => if i = m then wr.heap.size else rb i) (midD (fwD g 0) m 0)) :=
        (HM1.out.add hmn HN1.out hBs (by omega) (fun i hi => Nat.ne_of_lt (HM.out.row i hi).lt)).same fun i k _ _ => by
          unfold midD
          by_cases e : i = m
          · rw [if_pos e, if_pos ⟨e, Nat.zero_le _⟩]
          · rw [if_neg e, if_neg (fun h => e h.1)]
      rw [World.setCell_alloc_past _ _ _ _ hBl] at HM2 HB1
      have HR0 : Hid (∀ k, k < n → w.cell? ⟨gb, go + k, none⟩ = some (.bool (g m k))) := fun k hk => (HB.out.cell (p := ⟨gb, go + k, none⟩) hgl).symm.trans (hr k hk)
      clear hr HM1 HN1 HM
      go_wp2
      clear hmk hov hfz r0
      generalize (wr.setCell _ _).alloc _ = W1 at HB1 HM2 ⊢
      generalize (fun i => if i = m then wr.heap.size else rb i) = rb1 at HM2
      clear HB hBl hBs
      go_loopw [29] (fun v wz => ∃ k : Nat, k ≤ n ∧ v = .int .i64 k ∧ NumM wz w.heap.size w.heap.size n (m + 1) rb1 (midD (fwD g 0) m k) ∧ Below w.heap.size w wz) (fun v _ => n - (intOf v).toNat)
      case atStart => exact ⟨0, Nat.zero_le _, rfl, HM2.out, HB1.out⟩
      case round =>
        clear HM2 HB1
        obtain ⟨k, hk, rfl, hM, hb⟩ := hrel
        have HM := hideIt hM
        have HB := hideIt hb
        clear hM hb
        by_cases hkn : k < n
        · have hkn' : (k : Int) < n := by omega
          have r1 := (HB.out.cell (p := ⟨gb, go + k, none⟩) hgl).trans (HR0.out k hkn)
          have c0 := HM.out.head m (by omega)
          have c1 := (HM.out.row m (by omega)).num k hkn
          have z1 := (HM.out.row m (by omega)).fz k
          have hge := (HM.out.from_ m (by omega)).1
          have HZ := hideIt (fwD_zero g m k)
          have HPut : Hid (g m k = true → NumM (wr.setCell ⟨rb1 m, k, none⟩ (.int .i64 1)) w.heap.size w.heap.size n (m + 1) rb1 (midD (fwD g 0) m (k + 1)) ∧ Below w.heap.size w (wr.setCell ⟨rb1 m, k, none⟩ (.int .i64 1))) := fun h =>
            ⟨(HM.out.put (by omega) hkn 1).same fun i b _ _ => midD_put (fwD g 0) m k 1 (by rw [fwD_zero, if_pos h]) i b, HB.out.setCell (p := ⟨rb1 m, k, none⟩) hge _⟩
          have HLv : Hid (g m k = false → NumM wr w.heap.size w.heap.size n (m + 1) rb1 (midD (fwD g 0) m (k + 1))) := fun h => HM.out.same fun i b _ _ => midD_zero (fwD g 0) m k (by rw [fwD_zero, if_neg (by rw [h]; simp)]) i b
          generalize midD (fwD g 0) m k m k = old at c1
          generalize g m k = gk at r1 HPut HLv
          cases gk
          · have R1 := hideIt (HLv.out rfl)
            clear HPut HLv c0 c1
            go_wp2
            go_roundw
            case rel => exact ⟨k + 1, by omega, by go_num, R1.out, HB.out⟩
            case measure => simp [intOf]; omega
          · have R1 := hideIt (HPut.out rfl)
            clear HPut HLv
            go_wp2
            go_roundw
            case rel => exact ⟨k + 1, by omega, by go_num, R1.out⟩
            case measure => simp [intOf]; omega
        · obtain rfl : k = n := by omega
          have R1 : Hid (NumM wr w.heap.size w.heap.size k (m + 1) rb1 (fwD g 0)) := HM.out.same fun i b _ hb => midD_end _ _ _ _ _ hb
          go_wp2
          go_roundw
          case rel => exact ⟨m + 1, rb1, by omega, by go_num, R1.out, HB.out⟩
          case measure => simp [intOf]; omega
    · obtain rfl : m = n := by omega
      go_wp2
      go_loopw [45] (fun v wz => ∃ t : Nat, t ≤ m ∧ v = .int .i64 t ∧ NumM wz w.heap.size w.heap.size m m rb (fwD g t) ∧ Below w.heap.size w wz) (fun v _ => m - (intOf v).toNat)
      case atStart => exact ⟨0, Nat.zero_le _, rfl, HM.out, HB.out⟩
      case round =>
        clear HM HB
        obtain ⟨t, ht, rfl, hM, hb⟩ := hrel
        have HM := hideIt hM
        have HB := hideIt hb
        clear hM hb
        by_cases htm : t < m
        · have htm' : (t : Int) < m := by omega
          have HMt := hideIt (HMost.out t ht)
          have HSu : Hid (fwD g (t + 1) = fwS (fwD g t) t) := rfl
          generalize fwD g t = D at HM HMt HSu
          go_wp2
          go_loopw [50] (fun v wz => ∃ i : Nat, i ≤ m ∧ v = .int .i64 i ∧ NumM wz w.heap.size w.heap.size m m rb (stgF D t i 0) ∧ Below w.heap.size w wz) (fun v _ => m - (intOf v).toNat)
          case atStart => exact ⟨0, Nat.zero_le _, rfl, HM.out.same fun a b _ _ => (stgF_zero D t a b).symm, HB.out⟩
          case round =>
            clear HM HB
            obtain ⟨i, hi, rfl, hM, hb⟩ := hrel
            have HM := hideIt hM
            have HB := hideIt hb
            clear hM hb
            by_cases him : i < m
            · have him' : (i : Int) < m := by omega
              have ci := HM.out.head i him
              have ct := HM.out.head t htm
              have cc := (HM.out.row i him).num t htm
              rw [stgF_col] at cc
              by_cases hd : D i t = 0
              · have R1 : Hid (NumM wr w.heap.size w.heap.size m m rb (stgF D t (i + 1) 0)) := HM.out.same fun a b _ _ => stgF_skip hd a b
                rw [hd] at cc
                clear ct
                go_wp2
                go_roundw
                case rel => exact ⟨i + 1, by omega, by go_num, R1.out, HB.out⟩
                case measure => simp [intOf]; omega
              · have HCs : Hid (∀ W', Below wr.heap.size wr W' → Calls Tryd.prog 93 #[.slice (some ⟨rb i, 0, none⟩) m m, .slice (some ⟨rb t, 0, none⟩) m m, .int .i64 ((D i t : Nat) : Int)] W' fun e w' => e = .returned (.tuple #[]) ∧ NumM w' w.heap.size w.heap.size m m rb (stgF D t i m) ∧ Below w.heap.size w w') := fun W' hW =>
                  shorten_any m t i D h40 htm him (by omega) HMt.out w.heap.size w.heap.size rb w W' (HM.out.below hW) (belJ HB.out hW)
                have hdp : (0 : Int) < ((D i t : Nat) : Int) := by omega
                have HSe : Hid (∀ W', NumM W' w.heap.size w.heap.size m m rb (stgF D t i m) → NumM W' w.heap.size w.heap.size m m rb (stgF D t (i + 1) 0)) := fun W' h => h.same fun a b _ hb => stgF_end a b hb
                generalize D i t = d at cc HCs hdp
                clear HM hd HMt
                go_upto_region 20 with fail
                go_region_with (go_at_call 93; refine (HCs.out _ (by repeat (first | exact Below.refl _ _ | refine Below.drew ?_))).mono ?_; rintro e w2 ⟨rfl, hn2, hb2⟩; have R1 := hideIt (HSe.out _ hn2); have R2 := hideIt hb2; clear hn2 hb2)
                all_goals
                  go_wp2
                  go_roundw
                  case rel => exact ⟨i + 1, by omega, by go_num, R1.out.below (by repeat (first | exact Below.refl _ _ | refine Below.drew ?_)), belJ R2.out (by repeat (first | exact Below.refl _ _ | refine Below.drew ?_))⟩
                  case measure => simp [intOf]; omega
            · obtain rfl : i = m := by omega
              have R1 : Hid (NumM wr w.heap.size w.heap.size i i rb (fwD g (t + 1))) := HM.out.same fun a b ha _ => by rw [HSu.out]; exact stgF_all a b ha
              go_wp2
              go_roundw
              case rel => exact ⟨t + 1, by omega, by go_num, R1.out, HB.out⟩
              case measure => simp [intOf]; omega
        · obtain rfl : t = m := by omega
          go_wp2
          go_ret
          exact ⟨_, rb, rfl, HM.out, HB.out⟩
end Go.Proofs.YtaopigjhdkdklaaDoor
