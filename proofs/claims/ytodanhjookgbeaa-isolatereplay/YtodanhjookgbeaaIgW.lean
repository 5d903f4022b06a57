/-
  The program's together, goesRound and leadsBack, walked.
-/
import Derived.Test.YtodanhjookgbeaaIbW
import Derived.Test.YtodanhjookgbeaaNrWZ
import Derived.Test.YtodanhjookgbeaaGhPZ
namespace Go.Proofs.Ytodanhjookgbeaa
open Go.RowKit

def matN (n : Nat) (A : Nat → Nat → Bool) : List (List Bool) := (List.range n).map fun i => (List.range n).map fun k => A i k
theorem matN_len (n : Nat) (A : Nat → Nat → Bool) : (matN n A).length = n := by simp [matN]
theorem matN_row (n : Nat) (A : Nat → Nat → Bool) {i : Nat} (h : i < (matN n A).length) : (matN n A)[i] = (List.range n).map fun k => A i k := by simp [matN]
theorem matN_rows (n : Nat) (A : Nat → Nat → Bool) : ∀ r ∈ matN n A, r.length = n := fun r hr => by
  unfold matN at hr
  obtain ⟨i, _, rfl⟩ := List.mem_map.1 hr
  simp
theorem matN_ok {n : Nat} (h : n ≤ 40) (A : Nat → Nat → Bool) : ckG (matN n A) = 0 := by
  unfold ckG
  rw [matN_len, if_neg (by omega), if_pos]
  rw [List.all_eq_true]
  intro r hr
  rw [matN_rows n A r hr]; simp
theorem matN_gB (n : Nat) (A : Nat → Nat → Bool) {i k : Nat} (hi : i < n) (hk : k < n) : gB (matN n A) i k = A i k := by
  unfold gB matN
  simp [List.getD, hi, hk]
theorem matN_congr {n : Nat} {A A' : Nat → Nat → Bool} (h : ∀ i k, i < n → k < n → A i k = A' i k) : matN n A = matN n A' := by
  unfold matN
  refine List.map_congr_left fun i hi => List.map_congr_left fun k hk => h i k (by simpa using hi) (by simpa using hk)
theorem matN_max {n : Nat} (h : n ≤ 40) (A : Nat → Nat → Bool) : (matN n A).length ≤ maxLen ∧ ∀ r ∈ matN n A, r.length ≤ maxLen := by
  unfold maxLen
  refine ⟨by rw [matN_len]; omega, fun r hr => by rw [matN_rows n A r hr]; omega⟩
theorem ReadM.below {w w' : World} {v : Value} {n : Nat} {A : Nat → Nat → Bool} (h : ReadM w v n A) (hw : Below w.heap.size w w') : ReadM w' v n A := by
  obtain ⟨a, cap, rfl, hc, hr⟩ := h
  refine ⟨a, cap, rfl, hc, fun i hi => ?_⟩
  obtain ⟨g, off, r, e, h1, h2⟩ := hr i hi
  exact ⟨g, off, r, e, (hw.cell (p := ⟨g, off + i, none⟩) (World.block_lt_of_cell? w _ h1)).trans h1, fun k hk => (hw.cell (p := ⟨r, k, none⟩) (World.block_lt_of_cell? w _ (h2 k hk))).trans (h2 k hk)⟩
theorem readM_rows {w : World} {a : Option Addr} {n cap : Nat} {A : Nat → Nat → Bool} (h : ReadM w (.slice a n cap) n A) : ∀ i, i < n → ∃ g off r, a = some ⟨g, off, none⟩ ∧ w.cell? ⟨g, off + i, none⟩ = some (.slice (some ⟨r, 0, none⟩) n n) ∧ ∀ k, k < n → w.cell? ⟨r, k, none⟩ = some (.bool (A i k)) := by
  obtain ⟨a1, cap1, e1, _, hr⟩ := h
  injection e1 with e1
  subst e1
  exact hr
theorem grQ_readN {w : World} {v : Value} {n : Nat} {A : Nat → Nat → Bool} (h : ReadM w v n A) : ∃ a cap, v = .slice a n cap ∧ GrQ w a (matN n A) := by
  obtain ⟨a, cap, rfl, hc, hr⟩ := h
  refine ⟨a, cap, rfl, ?_⟩
  by_cases hn : n = 0
  · subst hn; exact .inl rfl
  obtain ⟨g, off, r, rfl, h0, _⟩ := hr 0 (by omega)
  refine .inr ⟨g, off, rfl, World.block_lt_of_cell? w _ h0, fun i hi => ?_⟩
  obtain ⟨g', off', r', e, h1, h2⟩ := hr i (by rw [matN_len] at hi; exact hi)
  injection e with e
  injection e with e1 e2
  subst e1 e2
  refine ⟨_, h1, some ⟨r', 0, none⟩, n, ?_, ?_, .inr ⟨r', 0, rfl, ?_, fun j hj => ?_⟩⟩
  · rw [matN_row]; simp
  · rw [matN_row]; simp
  · exact World.block_lt_of_cell? w _ (h2 0 (by omega))
  · have hj8 : j < n := by rw [matN_row] at hj; simpa using hj
    rw [Nat.zero_add, h2 j hj8]
    simp [matN_row]
theorem Way.inn {R S : Nat → Nat → Bool} {n : Nat} (h : ∀ i k, i < n → k < n → R i k = true → S i k = true) {i k : Nat} (hw : Way R n i k) : Way S n i k := by
  induction hw with
  | one hi hk h1 => exact .one hi hk (h _ _ hi hk h1)
  | more h0 hk h1 ih => exact .more ih hk (h _ _ h0.lt.2 hk h1)
theorem way_mat {n : Nat} {A : Nat → Nat → Bool} {i k : Nat} : Way (gB (matN n A)) n i k ↔ Way A n i k :=
  ⟨fun h => h.inn fun i k hi hk e => by rw [matN_gB n A hi hk] at e; exact e, fun h => h.inn fun i k hi hk e => by rw [matN_gB n A hi hk]; exact e⟩
theorem war_mat {n : Nat} {A : Nat → Nat → Bool} {i k : Nat} (hi : i < n) (hk : k < n) : war (gB (matN n A)) n i k = war A n i k := by
  rw [Bool.eq_iff_iff, war_iff hi hk, war_iff hi hk, way_mat]
/-- Does it go round? -/
def rndB (A : Nat → Nat → Bool) (n : Nat) : Bool := (List.range n).any fun x => war A n x x
theorem rndB_iff {A : Nat → Nat → Bool} {n : Nat} : rndB A n = true ↔ ∃ x, Way A n x x := by
  unfold rndB
  rw [List.any_eq_true]
  constructor
  · rintro ⟨x, hx, h⟩
    rw [List.mem_range] at hx
    exact ⟨x, (war_iff hx hx).1 h⟩
  · rintro ⟨x, h⟩
    exact ⟨x, List.mem_range.2 h.lt.1, way_war h⟩
/-- Does one of some edges lead back? -/
def ldbB (E A : Nat → Nat → Bool) (n : Nat) : Bool := (List.range n).any fun i => (List.range n).any fun k => E i k && war A n k i
theorem ldbB_iff {E A : Nat → Nat → Bool} {n : Nat} : ldbB E A n = true ↔ ∃ i k, i < n ∧ k < n ∧ E i k = true ∧ war A n k i = true := by
  unfold ldbB
  simp only [List.any_eq_true, List.mem_range, Bool.and_eq_true]
  constructor
  · rintro ⟨i, hi, k, hk, h⟩; exact ⟨i, k, hi, hk, h⟩
  · rintro ⟨i, k, hi, hk, h⟩; exact ⟨i, hi, k, hk, h⟩
theorem ldbB_no {E A : Nat → Nat → Bool} {n : Nat} (h : ∀ i k, i < n → k < n → (E i k && war A n k i) = false) : ldbB E A n = false := by
  cases hb : ldbB E A n
  · rfl
  · obtain ⟨i, k, hi, hk, h1, h2⟩ := ldbB_iff.1 hb
    have := h i k hi hk
    rw [h1, h2] at this; cases this

set_option maxRecDepth 100000 in
theorem goesRound_any (n : Nat) (hn : n ≤ 40) (A : Nat → Nat → Bool) (v : Value) (w : World) (h : ReadM w v n A) :
    Calls Try.prog 17 #[v] w fun e w' => e = .returned (.bool (rndB A n)) ∧ Below w.heap.size w w' := by
  obtain ⟨a, cap, rfl, hg⟩ := grQ_readN h
  have HC := hideIt (gCycle_any (matN n A) a cap w (matN_max hn A).1 (matN_max hn A).2 hg)
  have hcy : (cyG (matN n A) = 0 ∧ rndB A n = true) ∨ (cyG (matN n A) = 8 ∧ rndB A n = false) := by
    have ok := matN_ok hn A
    rcases cycD_spec (gB (matN n A)) (matN n A).length with ⟨d, e, hd⟩ | ⟨e, hno⟩
    · left
      refine ⟨(cyG_best ok hd).1, ?_⟩
      obtain ⟨x, hx⟩ := best_way hd
      rw [matN_len] at hx
      exact rndB_iff.2 ⟨x, way_mat.1 hx⟩
    · right
      refine ⟨(cyG_none ok hno).1, ?_⟩
      cases hb : rndB A n
      · rfl
      · obtain ⟨x, hx⟩ := rndB_iff.1 hb
        rw [matN_len] at hno
        exact absurd (way_mat.2 hx) (hno x)
  rw [matN_len] at HC
  unfold PyTold at HC
  generalize rndB A n = r at hcy ⊢
  go_enter Try.func17, Try.ntmps17
  go_wp2_with fail
  refine HC.out.mono ?_
  rintro e w1 ⟨u, rfl, _, hb⟩
  have HB := hideIt hb
  clear hb HC
  rcases hcy with ⟨h1, rfl⟩ | ⟨h1, rfl⟩
  · rw [h1, show toldV 0 = .nilIface from rfl]
    go_wp2
    go_ret
    exact ⟨rfl, HB.out⟩
  · rw [h1, show toldV 8 = .iface 75 (.int .i64 8) from rfl]
    go_wp2
    go_ret
    exact ⟨rfl, HB.out⟩

set_option maxRecDepth 100000 in
set_option maxHeartbeats 2000000 in
theorem leadsBack_any (n : Nat) (hn : n ≤ 40) (E A : Nat → Nat → Bool) (v v' : Value) (w : World) (h : ReadM w v n E) (h' : ReadM w v' n A) :
    Calls Try.prog 18 #[v, v'] w fun e w' => e = .returned (.bool (ldbB E A n)) ∧ Below w.heap.size w w' := by
  obtain ⟨a', cap', rfl, hg⟩ := grQ_readN h'
  have HC := hideIt (gClosed_any (matN n A) a' cap' w (matN_max hn A).1 (matN_max hn A).2 hg)
  have HY : Hid (∀ i k, i < n → k < n → E i k = true → war A n k i = true → ldbB E A n = true) := fun i k hi hk h1 h2 => ldbB_iff.2 ⟨i, k, hi, hk, h1, h2⟩
  have HN : Hid ((∀ i k, i < n → k < n → (E i k && war A n k i) = false) → ldbB E A n = false) := ldbB_no
  have HW : Hid (∀ i k, i < n → k < n → war (gB (matN n A)) n i k = war A n i k) := fun i k hi hk => war_mat hi hk
  unfold PcTold at HC
  rw [matN_ok hn A, matN_len] at HC
  generalize ldbB E A n = R at *
  have HR := hideIt h
  obtain ⟨a, cap, rfl, hc, _⟩ := h
  clear h' hg
  go_enter Try.func18, Try.ntmps18
  go_wp2_with fail
  refine HC.out.mono ?_
  rintro e w1 ⟨u, rfl, hM, _, hb⟩
  obtain ⟨B, rb, rfl, hM2⟩ := hM trivial
  have HM := hideIt (hM2.same (M' := war A n) fun i k hi hk => HW.out i k hi hk)
  have HB := hideIt hb
  have HR1 : Hid (∀ i, i < n → ∃ g off r, a = some ⟨g, off, none⟩ ∧ w1.cell? ⟨g, off + i, none⟩ = some (.slice (some ⟨r, 0, none⟩) n n) ∧ ∀ k, k < n → w1.cell? ⟨r, k, none⟩ = some (.bool (E i k))) := readM_rows (HR.out.below hb)
  clear hb HC hM hM2 HW HR
  rw [show toldV 0 = .nilIface from rfl]
  generalize war A n = A' at *
  go_wp2
  go_loopw [20] (fun x wr => ∃ i : Nat, i ≤ n ∧ x = .int .i64 i ∧ (∀ p k, p < i → k < n → (E p k && A' k p) = false) ∧ wr = w1) (fun x _ => n - (intOf x).toNat)
  case atStart => exact ⟨0, by omega, rfl, fun p k hp => absurd hp (by omega), rfl⟩
  case round =>
    obtain ⟨i, hi, rfl, hz, rfl⟩ := hrel
    have HZ := hideIt hz
    clear hz
    by_cases hin : i < n
    · have hin' : (i : Int) < n := by omega
      obtain ⟨g, off, r, rfl, x0, x1⟩ := HR1.out i hin
      have HX := hideIt x1
      clear x1
      go_wp2
      go_loopw [27] (fun x wz => ∃ k : Nat, k ≤ n ∧ x = .int .i64 k ∧ (∀ q, q < k → (E i q && A' q i) = false) ∧ wz = wr) (fun x _ => n - (intOf x).toNat)
      case atStart => exact ⟨0, by omega, rfl, fun q hq => absurd hq (by omega), rfl⟩
      case round =>
        obtain ⟨k, hk, rfl, hz2, rfl⟩ := hrel
        have HZ2 := hideIt hz2
        clear hz2
        by_cases hkn : k < n
        · have hkn' : (k : Int) < n := by omega
          have y0 := HX.out k hkn
          have y1 := HM.out.head k hkn
          have y2 := (HM.out.row k hkn).bit i hin
          have HNx : Hid ((E i k && A' k i) = false → ∀ q, q < k + 1 → (E i q && A' q i) = false) := fun h0 q hq => by
            by_cases e : q = k
            · subst e; exact h0
            · exact HZ2.out q (by omega)
          have HYk : Hid (E i k = true → A' k i = true → R = true) := HY.out i k hin hkn
          generalize E i k = ek at *
          generalize A' k i = ak at *
          cases ek
          · go_wp2
            go_roundw
            case rel => exact ⟨k + 1, by omega, by go_num, HNx.out rfl, trivial⟩
            case measure => simp [intOf]; omega
          · cases ak
            · go_wp2
              go_roundw
              case rel => exact ⟨k + 1, by omega, by go_num, HNx.out rfl, trivial⟩
              case measure => simp [intOf]; omega
            · have HE := hideIt (HYk.out rfl rfl)
              go_wp2
              go_ret
              exact ⟨ret_bool HE.out.symm, HB.out⟩
        · have HNx : Hid (∀ p k, p < i + 1 → k < n → (E p k && A' k p) = false) := fun p q hp hq => by
            by_cases e : p = i
            · subst e; exact HZ2.out q (by omega)
            · exact HZ.out p q (by omega) hq
          go_wp2
          go_roundw
          case rel => exact ⟨i + 1, by omega, by go_num, HNx.out, trivial⟩
          case measure => simp [intOf]; omega
    · have HE := hideIt (HN.out fun p q hp hq => HZ.out p q (by omega) hq)
      go_wp2
      go_ret
      exact ⟨ret_bool HE.out.symm, HB.out⟩

set_option maxRecDepth 100000 in
set_option maxHeartbeats 2000000 in
theorem together_any (n : Nat) (hn : n ≤ 60) (A A' : Nat → Nat → Bool) (v v' : Value) (w : World) (h : ReadM w v n A) (h' : ReadM w v' n A') :
    Calls Try.prog 16 #[v, v'] w fun e w' => MatTold n (orR A A') w e w' := by
  have HBl := hideIt (blankP_any n hn w)
  have HR := hideIt h
  have HR' := hideIt h'
  obtain ⟨a, cap, rfl, hc, _⟩ := h
  obtain ⟨a', cap', rfl, hc', _⟩ := h'
  go_enter Try.func16, Try.ntmps16
  go_wp2_with fail
  refine HBl.out.mono ?_
  rintro e w1 ⟨B, rb, rfl, hM, hb⟩
  have HM := hideIt hM
  have HB := hideIt hb
  have HRw : Hid (∀ W, Below w.heap.size w W → (∀ i, i < n → ∃ g off r, a = some ⟨g, off, none⟩ ∧ W.cell? ⟨g, off + i, none⟩ = some (.slice (some ⟨r, 0, none⟩) n n) ∧ ∀ k, k < n → W.cell? ⟨r, k, none⟩ = some (.bool (A i k))) ∧ ∀ i, i < n → ∃ g off r, a' = some ⟨g, off, none⟩ ∧ W.cell? ⟨g, off + i, none⟩ = some (.slice (some ⟨r, 0, none⟩) n n) ∧ ∀ k, k < n → W.cell? ⟨r, k, none⟩ = some (.bool (A' i k))) := fun W hW => ⟨readM_rows (HR.out.below hW), readM_rows (HR'.out.below hW)⟩
  clear hM hb HBl HR HR'
  go_wp2
  go_loopw [14] (fun x wr => ∃ i : Nat, i ≤ n ∧ x = .int .i64 i ∧ MatAt wr w.heap.size B n n rb (fun p k => decide (p < i) && orR A A' p k) ∧ Below w.heap.size w wr) (fun x _ => n - (intOf x).toNat)
  case atStart => exact ⟨0, by omega, rfl, HM.out.same fun p k _ _ => by simp, HB.out⟩
  case round =>
    clear HM HB
    obtain ⟨i, hi, rfl, hM, hb⟩ := hrel
    have HM := hideIt hM
    have HB := hideIt hb
    clear hM hb
    by_cases hin : i < n
    · have hin' : (i : Int) < n := by omega
      have m0 := HM.out.head i hin
      go_wp2
      go_loopw [21] (fun x wz => ∃ k : Nat, k ≤ n ∧ x = .int .i64 k ∧ MatAt wz w.heap.size B n n rb (fun p q => (decide (p < i) || (decide (p = i) && decide (q < k))) && orR A A' p q) ∧ Below w.heap.size w wz) (fun x _ => n - (intOf x).toNat)
      case atStart => exact ⟨0, by omega, rfl, HM.out.same fun p q _ _ => by simp, HB.out⟩
      case round =>
        clear HM HB m0
        obtain ⟨k, hk, rfl, hM, hb⟩ := hrel
        have HM := hideIt hM
        have HB := hideIt hb
        clear hM hb
        by_cases hkn : k < n
        · have hkn' : (k : Int) < n := by omega
          have m0 := HM.out.head i hin
          obtain ⟨hr, hr'⟩ := HRw.out _ HB.out
          obtain ⟨g, off, r, rfl, x0, x1⟩ := hr i hin
          obtain ⟨g', off', r', rfl, y0, y1⟩ := hr' i hin
          have x2 := x1 k hkn
          have y2 := y1 k hkn
          clear x1 y1
          have z1 := (HM.out.row i hin).bit k hkn
          have z2 := (HM.out.row i hin).fz k
          have hge := (HM.out.from_ i hin).1
          have HPut : Hid (∀ x, (A i k || A' i k) = x → MatAt (wr.setCell ⟨rb i, k, none⟩ (.bool x)) w.heap.size B n n rb (fun p q => (decide (p < i) || (decide (p = i) && decide (q < k + 1))) && orR A A' p q) ∧ Below w.heap.size w (wr.setCell ⟨rb i, k, none⟩ (.bool x))) := fun x hx =>
            ⟨(HM.out.put hin hkn x).same fun p q _ _ => by
              by_cases e : p = i ∧ q = k
              · rw [if_pos e, e.1, e.2, show orR A A' i k = x from hx]; simp
              · rw [if_neg e]
                congr 1
                by_cases e1 : p = i
                · have e2 : q ≠ k := fun h => e ⟨e1, h⟩
                  have : (q < k + 1) = (q < k) := propext (by omega)
                  simp [e1, this]
                · simp [e1],
            HB.out.setCell (p := ⟨rb i, k, none⟩) hge _⟩
          generalize A i k = p at *
          generalize A' i k = q at *
          generalize ((decide (i < i) || (decide (i = i) && decide (k < k))) && orR A A' i k) = old at z1
          clear hr hr' HM HB
          cases p
          · cases q
            · have HP := hideIt (HPut.out false rfl)
              clear HPut
              go_wp2
              go_roundw
              case rel => exact ⟨k + 1, by omega, by go_num, HP.out⟩
              case measure => simp [intOf]; omega
            · have HP := hideIt (HPut.out true rfl)
              clear HPut
              go_wp2
              go_roundw
              case rel => exact ⟨k + 1, by omega, by go_num, HP.out⟩
              case measure => simp [intOf]; omega
          · have HP := hideIt (HPut.out true rfl)
            clear HPut
            go_wp2
            go_roundw
            case rel => exact ⟨k + 1, by omega, by go_num, HP.out⟩
            case measure => simp [intOf]; omega
        · have HM1 : Hid (MatAt wr w.heap.size B n n rb (fun p k => decide (p < i + 1) && orR A A' p k)) := HM.out.same fun p q _ hq => by
            congr 1
            have : q < k := by omega
            rw [Bool.eq_iff_iff]
            simp [this]
            omega
          go_wp2
          go_roundw
          case rel => exact ⟨i + 1, by omega, by go_num, HM1.out, HB.out⟩
          case measure => simp [intOf]; omega
    · have HM1 : Hid (MatAt wr w.heap.size B n n rb (orR A A')) := HM.out.same fun p q hp _ => by
        have : p < i := by omega
        simp [this]
      go_wp2
      go_ret
      exact ⟨B, rb, rfl, HM1.out, HB.out⟩
end Go.Proofs.Ytodanhjookgbeaa
