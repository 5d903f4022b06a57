/-
  The program's blank and over, walked: a graph that is made, and set bit by bit.
  The program's together, goesRound and leadsBack, walked.
  The program's behind and reads, walked: the iterator over what those read that commit.
-/
import Derived.Test.YtaopigjhdkdklaaDoorImWZ
import Derived.Test.YtaopigjhdkdklaaDoorClW
import Derived.Test.YtaopigjhdkdklaaDoorNrWZ
import Derived.Test.YtaopigjhdkdklaaDoorGhPZ
import Derived.RangeFuncNested
import Derived.RangeFuncBound
import Derived.RangeFuncCalls
import Derived.RangeFuncLeaves
import Derived.Shelf.Abstract
import Derived.OwnWalkIn
import Derived.TacticsInMore
import Derived.LoopNIn
import Derived.LoopIn
namespace Go.Proofs.YtaopigjhdkdklaaDoor
open Go.RowKit

/-- What a function tells that makes a graph. -/
def MatTold (n : Nat) (A : Nat → Nat → Bool) (w : World) (e : Ending) (w' : World) : Prop :=
  ∃ B rb, e = .returned (.slice (some ⟨B, 0, none⟩) n n) ∧ MatAt w' w.heap.size B n n rb A ∧ Below w.heap.size w w'

set_option maxRecDepth 100000 in
set_option maxHeartbeats 2000000 in
theorem blankP_any (n : Nat) (hn : n ≤ 60) (w : World) : Calls Tryd.prog 47 #[.int .i64 (n : Int)] w fun e w' => MatTold n (fun _ _ => false) w e w' := by
  have hmk := made_graph w n hn
  have HM0 := hideIt (mat_made w n)
  have HB0 : Hid (Below w.heap.size w (w.alloc (.cells (madeCells #[.slice none 0 0] n) 46))) := belA (Below.refl _ _) _
  go_enter Tryd.func47, Tryd.ntmps47
  go_wp2
  clear hmk
  generalize w.alloc _ = W1 at HM0 HB0 ⊢
  go_loopw [9] (fun v wr => ∃ (m : Nat) (cb : Nat → Nat), m ≤ n ∧ v = .int .i64 m ∧ MatAt wr w.heap.size w.heap.size n m cb (fun _ _ => false) ∧ Below w.heap.size w wr) (fun v _ => n - (intOf v).toNat)
  case atStart => exact ⟨0, _, Nat.zero_le _, rfl, HM0.out, HB0.out⟩
  case round =>
    clear HM0 HB0
    obtain ⟨m, cb, hm, rfl, hM, hb⟩ := hrel
    have HM := hideIt hM
    have HB := hideIt hb
    clear hM hb
    by_cases hmn : m < n
    · have hmn' : (m : Int) < n := by omega
      have hmk := made_bits wr n hn
      have HMa := hideIt (HM.out.alloc (.cells (madeCells #[.bool false] n) 4))
      have HN1 := hideIt (bits_made wr n)
      have hBl := HM.out.lt
      have hBs := HB.out.size
      obtain ⟨ov, hov⟩ := HMa.out.room m hmn
      have hfz := HMa.out.fz m
      have HB1 : Hid (Below w.heap.size w ((wr.alloc (.cells (madeCells #[.bool false] n) 4)).setCell ⟨w.heap.size, m, none⟩ (.slice (some ⟨wr.heap.size, 0, none⟩) n n))) := (belA HB.out _).setCell (p := ⟨w.heap.size, m, none⟩) (Nat.le_refl _) _
      have HM2 : Hid (MatAt ((wr.alloc (.cells (madeCells #[.bool false] n) 4)).setCell ⟨w.heap.size, m, none⟩ (.slice (some ⟨wr.heap.size, 0, none⟩) n n)) w.heap.size w.heap.size n (m + 1) (fun i => if i = m then wr.heap.size else cb i) (fun _ _ => false)) :=
        (HMa.out.add hmn HN1.out hBs (by omega) (fun i hi => Nat.ne_of_lt (HM.out.row i hi).lt)).same fun i k _ _ => by
          by_cases e : i = m
          · rw [if_pos e]
          · rw [if_neg e]
      rw [World.setCell_alloc_past _ _ _ _ hBl] at HM2 HB1
      clear HMa HN1 HM
      go_wp2
      go_roundw
      case rel => exact ⟨m + 1, _, by omega, by go_num, HM2.out, HB1.out⟩
      case measure => simp [intOf]; omega
    · obtain rfl : m = n := by omega
      go_wp2
      go_ret
      exact ⟨_, cb, rfl, HM.out, HB.out⟩

/-- The first pairs of a list, one right behind the other. -/
def ovK (l : List Int) (n : Nat) (i k : Nat) : Bool := (List.range n).any fun j => l[j]? == some (i : Int) && l[j + 1]? == some (k : Int)
/-- Of the first keys' lists. -/
def ovS (s : ISt) (q : Nat) (i k : Nat) : Bool := (List.range q).any fun x => ovK (lstK s (x : Int)) (lstK s (x : Int)).length i k
def ovB (s : ISt) (i k : Nat) : Bool := ovS s 8 i k
theorem ovK_zero (l : List Int) (i k : Nat) : ovK l 0 i k = false := rfl
theorem ovK_succ (l : List Int) (n i k : Nat) : ovK l (n + 1) i k = (ovK l n i k || (l[n]? == some (i : Int) && l[n + 1]? == some (k : Int))) := by
  unfold ovK
  rw [List.range_succ, List.any_append]
  simp
theorem ovS_succ (s : ISt) (q i k : Nat) : ovS s (q + 1) i k = (ovS s q i k || ovK (lstK s (q : Int)) (lstK s (q : Int)).length i k) := by
  unfold ovS
  rw [List.range_succ, List.any_append]
  simp
theorem ovK_last {l : List Int} {n : Nat} (h : n + 1 = l.length) (i k : Nat) : ovK l (n + 1) i k = ovK l n i k := by
  rw [ovK_succ, List.getElem?_eq_none (i := n + 1) (by omega)]
  simp
theorem ovK_put {l : List Int} {n a b : Nat} (ha : l[n]? = some (a : Int)) (hb : l[n + 1]? = some (b : Int)) (i k : Nat) : (if i = a ∧ k = b then true else ovK l n i k) = ovK l (n + 1) i k := by
  rw [ovK_succ, ha, hb]
  by_cases e : i = a ∧ k = b
  · rw [if_pos e, e.1, e.2]; simp
  · rw [if_neg e]
    have : ((some (a : Int) == some (i : Int)) && (some (b : Int) == some (k : Int))) = false := by
      rw [Bool.and_eq_false_iff]
      by_cases e1 : i = a
      · right; simp; omega
      · left; simp; omega
    rw [this, Bool.or_false]

set_option maxRecDepth 100000 in
set_option maxHeartbeats 4000000 in
theorem over_any (s : ISt) (ok : IOk s) (a b : Option Addr) (ca cb : Nat) (w : World) (h : StyQ w a ca b cb s) :
    Calls Tryd.prog 46 #[.agg #[.slice a s.txs.length ca, .slice b s.ord.length cb]] w fun e w' => MatTold s.txs.length (ovB s) w e w' := by
  have HS := hideIt h
  have h8 := ok.few
  have HB : Hid (Below w.heap.size w (w.alloc (.cells #[.slice a s.txs.length ca, .slice b s.ord.length cb] 44))) := belA (Below.refl _ _) _
  obtain ⟨c0, c1⟩ := box2 w (.slice a s.txs.length ca) (.slice b s.ord.length cb) 44
  have HBl := hideIt (blankP_any s.txs.length (by omega) (w.alloc (.cells #[.slice a s.txs.length ca, .slice b s.ord.length cb] 44)))
  have hlt : w.heap.size < (w.alloc (.cells #[.slice a s.txs.length ca, .slice b s.ord.length cb] 44)).heap.size := by simp
  -- the lists hold transactions
  have HL : Hid (∀ q, q < 8 → ∀ j (hj : j < (lstK s (q : Nat)).length), ∃ t : Nat, t < s.txs.length ∧ (lstK s (q : Nat))[j] = (t : Int)) := fun q hq j hj => by
    have := ((ok.ord.mem (q : Int) _ (by omega) (by omega)).1 (List.getElem_mem hj)).1
    obtain ⟨t, ht⟩ := Int.eq_ofNat_of_zero_le this.1
    exact ⟨t, by omega, ht⟩
  have HO8 := hideIt ok.eight
  clear h ok
  go_enter Tryd.func46, Tryd.ntmps46
  go_wp2_with fail
  refine HBl.out.mono ?_
  rintro e w1 ⟨B, rb, rfl, hM, hb1⟩
  have HM := hideIt hM
  have HB1 := hideIt (belJ HB.out hb1)
  have d1 := (hb1.cell (p := ⟨w.heap.size, 1, none⟩) hlt).trans c1
  clear hM HBl c0 c1 hlt
  have hBB : (w.alloc (.cells #[.slice a s.txs.length ca, .slice b s.ord.length cb] 44)).heap.size = w.heap.size + 1 := by simp
  rw [hBB] at HM
  clear hb1 hBB HB
  go_wp2
  go_loopw [14] (fun v wr => ∃ q : Nat, q ≤ 8 ∧ v = .int .i64 q ∧ MatAt wr (w.heap.size + 1) B s.txs.length s.txs.length rb (ovS s q) ∧ wr.cell? ⟨w.heap.size, 1, none⟩ = some (.slice b s.ord.length cb) ∧ Below w.heap.size w wr) (fun v _ => 8 - (intOf v).toNat)
  case atStart => exact ⟨0, Nat.zero_le _, rfl, HM.out.same fun i k _ _ => rfl, d1, HB1.out⟩
  case round =>
    clear HM HB1 d1
    obtain ⟨q, hq, rfl, hM, d1, hb⟩ := hrel
    have HM := hideIt hM
    have HB := hideIt hb
    clear hM hb
    by_cases hq8 : q < 8
    · have hqo : q < s.ord.length := by rw [HO8.out]; exact hq8
      have hq' : (q : Int) < s.ord.length := by omega
      obtain ⟨g, off, rfl, hg, la, lc, l1, l2, l3, l4⟩ := HS.out.row hqo
      have HLq := hideIt (HL.out q hq8)
      have HSu := hideIt (ovS_succ s q)
      rw [lstK_at hqo] at HLq HSu
      have l1' := (HB.out.cell (p := ⟨g, off + q, none⟩) hg).trans l1
      have HLi := hideIt l4
      generalize s.ord[q] = L at *
      unfold maxLen at l3
      clear l4 l1
      go_wp2
      go_loopw [6] (fun v wz => ∃ m : Nat, (m + 1 ≤ L.length ∨ m = 0) ∧ v = .int .i64 ((m : Int) + 1) ∧ MatAt wz (w.heap.size + 1) B s.txs.length s.txs.length rb (fun i k => ovS s q i k || ovK L m i k) ∧ wz.cell? ⟨w.heap.size, 1, none⟩ = some (.slice (some ⟨g, off, none⟩) s.ord.length cb) ∧ Below w.heap.size w wz) (fun v _ => L.length + 1 - (intOf v).toNat)
      case atStart => exact ⟨0, .inr rfl, rfl, HM.out.same fun i k _ _ => by rw [ovK_zero, Bool.or_false], d1, HB.out⟩
      case round =>
        clear HM HB d1 l1'
        obtain ⟨m, hm, rfl, hM, d1, hb⟩ := hrel
        have HM := hideIt hM
        have HB := hideIt hb
        clear hM hb
        by_cases hml : m + 1 < L.length
        · have hml' : (m : Int) + 1 < L.length := by omega
          obtain ⟨t0, ht0, e0⟩ := HLq.out m (by omega)
          obtain ⟨t1, ht1, e1⟩ := HLq.out (m + 1) hml
          rcases HLi.out.below HB.out with hL0 | ⟨g2, off2, rfl, hg2, hcs⟩
          · rw [hL0] at hml; simp at hml
          have x0 := hcs m (by omega)
          have x1 := hcs (m + 1) hml
          rw [e0] at x0
          rw [e1] at x1
          have HPut : Hid (∀ i k, (if i = t0 ∧ k = t1 then true else (ovS s q i k || ovK L m i k)) = (ovS s q i k || ovK L (m + 1) i k)) := fun i k => by
            rw [← ovK_put (l := L) (n := m) (a := t0) (b := t1) (by rw [List.getElem?_eq_getElem (by omega), e0]) (by rw [List.getElem?_eq_getElem hml, e1])]
            by_cases e : i = t0 ∧ k = t1
            · rw [if_pos e, if_pos e, Bool.or_true]
            · rw [if_neg e, if_neg e]
          have y0 := HM.out.head t0 ht0
          have y1 := (HM.out.row t0 ht0).bit t1 ht1
          have y2 := (HM.out.row t0 ht0).fz t1
          have hge := (HM.out.from_ t0 ht0).1
          have HM1 := hideIt ((HM.out.put ht0 ht1 true).same fun i k _ _ => HPut.out i k)
          have HB1 := hideIt (HB.out.setCell (p := ⟨rb t0, t1, none⟩) (by show w.heap.size ≤ rb t0; omega) (.bool true))
          have HD1 : Hid ((wr.setCell ⟨rb t0, t1, none⟩ (.bool true)).cell? ⟨w.heap.size, 1, none⟩ = some (.slice (some ⟨g, off, none⟩) s.ord.length cb)) := (World.cell?_setCell_other _ _ _ _ (blkNe (by omega))).trans d1
          have ht0' : (t0 : Int) < s.txs.length := by omega
          have ht1' : (t1 : Int) < s.txs.length := by omega
          clear HPut hcs HM HB e0 e1
          generalize (ovS s q t0 t1 || ovK L m t0 t1) = old at y1
          go_wp2
          go_region
          go_wp2
          go_roundw
          case rel => exact ⟨m + 1, .inl (by omega), by go_num, HM1.out.drew, HD1.out, HB1.out.drew⟩
          case measure => simp [intOf]; omega
        · have HM1 : Hid (MatAt wr (w.heap.size + 1) B s.txs.length s.txs.length rb (ovS s (q + 1))) := HM.out.same fun i k _ _ => by
            rw [HSu.out]
            congr 1
            rcases hm with h | h
            · rw [← ovK_last (n := m) (by omega)]
              congr 1; omega
            · subst h
              have : L.length = 0 ∨ L.length = 1 := by omega
              rcases this with h | h
              · rw [h]
              · rw [h, ovK_last (n := 0) (by omega)]
          have hml' : ¬ (m : Int) + 1 < L.length := by omega
          go_wp2
          go_roundw
          case rel => exact ⟨q + 1, by omega, by go_num, HM1.out, d1, HB.out⟩
          case measure => simp [intOf]; omega
    · have hq' : ¬ (q : Int) < s.ord.length := by have := HO8.out; omega
      obtain rfl : q = 8 := by omega
      go_wp2
      go_ret
      exact ⟨B, rb, rfl, HM.out.mono (by omega), HB.out⟩
end Go.Proofs.YtaopigjhdkdklaaDoor

namespace Go.Proofs.YtaopigjhdkdklaaDoor
open Go.RowKit

def matN (n : Nat) (A : Nat → Nat → Bool) : List (List Bool) := (List.range n).map fun i => (List.range n).map fun k => A i k
theorem matN_len (n : Nat) (A : Nat → Nat → Bool) : (matN n A).length = n := by simp [matN]
theorem matN_row (n : Nat) (A : Nat → Nat → Bool) {i : Nat} (h : i < (matN n A).length) : (matN n A)[i] = (List.range n).map fun k => A i k := by simp [matN]
theorem matN_rows (n : Nat) (A : Nat → Nat → Bool) : ∀ r ∈ matN n A, r.length = n := fun r hr => by
  unfold matN at hr
  obtain ⟨i, _, rfl⟩ := List.mem_map.1 hr
  simp
theorem matN_ok {n : Nat} (h : n ≤ 40) (A : Nat → Nat → Bool) : ckG (matN n A) = 0 := by
  unfold ckG
  rw [matN_len, if_neg (by omega), if_pos]
  rw [List.all_eq_true]
  intro r hr
  rw [matN_rows n A r hr]; simp
theorem matN_gB (n : Nat) (A : Nat → Nat → Bool) {i k : Nat} (hi : i < n) (hk : k < n) : gB (matN n A) i k = A i k := by
  unfold gB matN
  simp [List.getD, hi, hk]
theorem matN_congr {n : Nat} {A A' : Nat → Nat → Bool} (h : ∀ i k, i < n → k < n → A i k = A' i k) : matN n A = matN n A' := by
  unfold matN
  refine List.map_congr_left fun i hi => List.map_congr_left fun k hk => h i k (by simpa using hi) (by simpa using hk)
theorem matN_max {n : Nat} (h : n ≤ 40) (A : Nat → Nat → Bool) : (matN n A).length ≤ maxLen ∧ ∀ r ∈ matN n A, r.length ≤ maxLen := by
  unfold maxLen
  refine ⟨by rw [matN_len]; omega, fun r hr => by rw [matN_rows n A r hr]; omega⟩
theorem ReadM.below {w w' : World} {v : Value} {n : Nat} {A : Nat → Nat → Bool} (h : ReadM w v n A) (hw : Below w.heap.size w w') : ReadM w' v n A := by
  obtain ⟨a, cap, rfl, hc, hr⟩ := h
  refine ⟨a, cap, rfl, hc, fun i hi => ?_⟩
  obtain ⟨g, off, r, e, h1, h2⟩ := hr i hi
  exact ⟨g, off, r, e, (hw.cell (p := ⟨g, off + i, none⟩) (World.block_lt_of_cell? w _ h1)).trans h1, fun k hk => (hw.cell (p := ⟨r, k, none⟩) (World.block_lt_of_cell? w _ (h2 k hk))).trans (h2 k hk)⟩
theorem readM_rows {w : World} {a : Option Addr} {n cap : Nat} {A : Nat → Nat → Bool} (h : ReadM w (.slice a n cap) n A) : ∀ i, i < n → ∃ g off r, a = some ⟨g, off, none⟩ ∧ w.cell? ⟨g, off + i, none⟩ = some (.slice (some ⟨r, 0, none⟩) n n) ∧ ∀ k, k < n → w.cell? ⟨r, k, none⟩ = some (.bool (A i k)) := by
  obtain ⟨a1, cap1, e1, _, hr⟩ := h
  injection e1 with e1
  subst e1
  exact hr
theorem grQ_readN {w : World} {v : Value} {n : Nat} {A : Nat → Nat → Bool} (h : ReadM w v n A) : ∃ a cap, v = .slice a n cap ∧ GrQ w a (matN n A) := by
  obtain ⟨a, cap, rfl, hc, hr⟩ := h
  refine ⟨a, cap, rfl, ?_⟩
  by_cases hn : n = 0
  · subst hn; exact .inl rfl
  obtain ⟨g, off, r, rfl, h0, _⟩ := hr 0 (by omega)
  refine .inr ⟨g, off, rfl, World.block_lt_of_cell? w _ h0, fun i hi => ?_⟩
  obtain ⟨g', off', r', e, h1, h2⟩ := hr i (by rw [matN_len] at hi; exact hi)
  injection e with e
  injection e with e1 e2
  subst e1 e2
  refine ⟨_, h1, some ⟨r', 0, none⟩, n, ?_, ?_, .inr ⟨r', 0, rfl, ?_, fun j hj => ?_⟩⟩
  · rw [matN_row]; simp
  · rw [matN_row]; simp
  · exact World.block_lt_of_cell? w _ (h2 0 (by omega))
  · have hj8 : j < n := by rw [matN_row] at hj; simpa using hj
    rw [Nat.zero_add, h2 j hj8]
    simp [matN_row]
theorem Way.inn {R S : Nat → Nat → Bool} {n : Nat} (h : ∀ i k, i < n → k < n → R i k = true → S i k = true) {i k : Nat} (hw : Way R n i k) : Way S n i k := by
  induction hw with
  | one hi hk h1 => exact .one hi hk (h _ _ hi hk h1)
  | more h0 hk h1 ih => exact .more ih hk (h _ _ h0.lt.2 hk h1)
theorem way_mat {n : Nat} {A : Nat → Nat → Bool} {i k : Nat} : Way (gB (matN n A)) n i k ↔ Way A n i k :=
  ⟨fun h => h.inn fun i k hi hk e => by rw [matN_gB n A hi hk] at e; exact e, fun h => h.inn fun i k hi hk e => by rw [matN_gB n A hi hk]; exact e⟩
theorem war_mat {n : Nat} {A : Nat → Nat → Bool} {i k : Nat} (hi : i < n) (hk : k < n) : war (gB (matN n A)) n i k = war A n i k := by
  rw [Bool.eq_iff_iff, war_iff hi hk, war_iff hi hk, way_mat]
/-- Does it go round? -/
def rndB (A : Nat → Nat → Bool) (n : Nat) : Bool := (List.range n).any fun x => war A n x x
theorem rndB_iff {A : Nat → Nat → Bool} {n : Nat} : rndB A n = true ↔ ∃ x, Way A n x x := by
  unfold rndB
  rw [List.any_eq_true]
  constructor
  · rintro ⟨x, hx, h⟩
    rw [List.mem_range] at hx
    exact ⟨x, (war_iff hx hx).1 h⟩
  · rintro ⟨x, h⟩
    exact ⟨x, List.mem_range.2 h.lt.1, way_war h⟩
/-- Does one of some edges lead back? -/
def ldbB (E A : Nat → Nat → Bool) (n : Nat) : Bool := (List.range n).any fun i => (List.range n).any fun k => E i k && war A n k i
theorem ldbB_iff {E A : Nat → Nat → Bool} {n : Nat} : ldbB E A n = true ↔ ∃ i k, i < n ∧ k < n ∧ E i k = true ∧ war A n k i = true := by
  unfold ldbB
  simp only [List.any_eq_true, List.mem_range, Bool.and_eq_true]
  constructor
  · rintro ⟨i, hi, k, hk, h⟩; exact ⟨i, k, hi, hk, h⟩
  · rintro ⟨i, k, hi, hk, h⟩; exact ⟨i, hi, k, hk, h⟩
theorem ldbB_no {E A : Nat → Nat → Bool} {n : Nat} (h : ∀ i k, i < n → k < n → (E i k && war A n k i) = false) : ldbB E A n = false := by
  cases hb : ldbB E A n
  · rfl
  · obtain ⟨i, k, hi, hk, h1, h2⟩ := ldbB_iff.1 hb
    have := h i k hi hk
    rw [h1, h2] at this; cases this

set_option maxRecDepth 100000 in
theorem goesRound_any (n : Nat) (hn : n ≤ 40) (A : Nat → Nat → Bool) (v : Value) (w : World) (h : ReadM w v n A) :
    Calls Tryd.prog 40 #[v] w fun e w' => e = .returned (.bool (rndB A n)) ∧ Below w.heap.size w w' := by
  obtain ⟨a, cap, rfl, hg⟩ := grQ_readN h
  have HC := hideIt (gCycle_any (matN n A) a cap w (matN_max hn A).1 (matN_max hn A).2 hg)
  have hcy : (cyG (matN n A) = 0 ∧ rndB A n = true) ∨ (cyG (matN n A) = 8 ∧ rndB A n = false) := by
    have ok := matN_ok hn A
    rcases cycD_spec (gB (matN n A)) (matN n A).length with ⟨d, e, hd⟩ | ⟨e, hno⟩
    · left
      refine ⟨(cyG_best ok hd).1, ?_⟩
      obtain ⟨x, hx⟩ := best_way hd
      rw [matN_len] at hx
      exact rndB_iff.2 ⟨x, way_mat.1 hx⟩
    · right
      refine ⟨(cyG_none ok hno).1, ?_⟩
      cases hb : rndB A n
      · rfl
      · obtain ⟨x, hx⟩ := rndB_iff.1 hb
        rw [matN_len] at hno
        exact absurd (way_mat.2 hx) (hno x)
  rw [matN_len] at HC
  unfold PyTold at HC
  generalize rndB A n = r at hcy ⊢
  go_enter Tryd.func40, Tryd.ntmps40
  go_wp2_with fail
  refine HC.out.mono ?_
  rintro e w1 ⟨u, rfl, _, hb⟩
  have HB := hideIt hb
  clear hb HC
  rcases hcy with ⟨h1, rfl⟩ | ⟨h1, rfl⟩
  · rw [h1, show toldV 0 = .nilIface from rfl]
    go_wp2
    go_ret
    exact ⟨rfl, HB.out⟩
  · rw [h1, show toldV 8 = .iface 29 (.int .i64 8) from rfl]
    go_wp2
    go_ret
    exact ⟨rfl, HB.out⟩

set_option maxRecDepth 100000 in
set_option maxHeartbeats 2000000 in
theorem leadsBack_any (n : Nat) (hn : n ≤ 40) (E A : Nat → Nat → Bool) (v v' : Value) (w : World) (h : ReadM w v n E) (h' : ReadM w v' n A) :
    Calls Tryd.prog 41 #[v, v'] w fun e w' => e = .returned (.bool (ldbB E A n)) ∧ Below w.heap.size w w' := by
  obtain ⟨a', cap', rfl, hg⟩ := grQ_readN h'
  have HC := hideIt (gClosed_any (matN n A) a' cap' w (matN_max hn A).1 (matN_max hn A).2 hg)
  have HY : Hid (∀ i k, i < n → k < n → E i k = true → war A n k i = true → ldbB E A n = true) := fun i k hi hk h1 h2 => ldbB_iff.2 ⟨i, k, hi, hk, h1, h2⟩
  have HN : Hid ((∀ i k, i < n → k < n → (E i k && war A n k i) = false) → ldbB E A n = false) := ldbB_no
  have HW : Hid (∀ i k, i < n → k < n → war (gB (matN n A)) n i k = war A n i k) := fun i k hi hk => war_mat hi hk
  unfold PcTold at HC
  rw [matN_ok hn A, matN_len] at HC
  generalize ldbB E A n = R at *
  have HR := hideIt h
  obtain ⟨a, cap, rfl, hc, _⟩ := h
  clear h' hg
  go_enter Tryd.func41, Tryd.ntmps41
  go_wp2_with fail
  refine HC.out.mono ?_
  rintro e w1 ⟨u, rfl, hM, _, hb⟩
  obtain ⟨B, rb, rfl, hM2⟩ := hM trivial
  have HM := hideIt (hM2.same (M' := war A n) fun i k hi hk => HW.out i k hi hk)
  have HB := hideIt hb
  have HR1 : Hid (∀ i, i < n → ∃ g off r, a = some ⟨g, off, none⟩ ∧ w1.cell? ⟨g, off + i, none⟩ = some (.slice (some ⟨r, 0, none⟩) n n) ∧ ∀ k, k < n → w1.cell? ⟨r, k, none⟩ = some (.bool (E i k))) := readM_rows (HR.out.below hb)
  clear hb HC hM hM2 HW HR
  rw [show toldV 0 = .nilIface from rfl]
  generalize war A n = A' at *
  go_wp2
  go_loopw [20] (fun x wr => ∃ i : Nat, i ≤ n ∧ x = .int .i64 i ∧ (∀ p k, p < i → k < n → (E p k && A' k p) = false) ∧ wr = w1) (fun x _ => n - (intOf x).toNat)
  case atStart => exact ⟨0, by omega, rfl, fun p k hp => absurd hp (by omega), rfl⟩
  case round =>
    obtain ⟨i, hi, rfl, hz, rfl⟩ := hrel
    have HZ := hideIt hz
    clear hz
    by_cases hin : i < n
    · have hin' : (i : Int) < n := by omega
      obtain ⟨g, off, r, rfl, x0, x1⟩ := HR1.out i hin
      have HX := hideIt x1
      clear x1
      go_wp2
      go_loopw [27] (fun x wz => ∃ k : Nat, k ≤ n ∧ x = .int .i64 k ∧ (∀ q, q < k → (E i q && A' q i) = false) ∧ wz = wr) (fun x _ => n - (intOf x).toNat)
      case atStart => exact ⟨0, by omega, rfl, fun q hq => absurd hq (by omega), rfl⟩
      case round =>
        obtain ⟨k, hk, rfl, hz2, rfl⟩ := hrel
        have HZ2 := hideIt hz2
        clear hz2
        by_cases hkn : k < n
        · have hkn' : (k : Int) < n := by omega
          have y0 := HX.out k hkn
          have y1 := HM.out.head k hkn
          have y2 := (HM.out.row k hkn).bit i hin
          have HNx : Hid ((E i k && A' k i) = false → ∀ q, q < k + 1 → (E i q && A' q i) = false) := fun h0 q hq => by
            by_cases e : q = k
            · subst e; exact h0
            · exact HZ2.out q (by omega)
          have HYk : Hid (E i k = true → A' k i = true → R = true) := HY.out i k hin hkn
          generalize E i k = ek at *
          generalize A' k i = ak at *
          cases ek
          · go_wp2
            go_roundw
            case rel => exact ⟨k + 1, by omega, by go_num, HNx.out rfl, trivial⟩
            case measure => simp [intOf]; omega
          · cases ak
            · go_wp2
              go_roundw
              case rel => exact ⟨k + 1, by omega, by go_num, HNx.out rfl, trivial⟩
              case measure => simp [intOf]; omega
            · have HE := hideIt (HYk.out rfl rfl)
              go_wp2
              go_ret
              exact ⟨ret_bool HE.out.symm, HB.out⟩
        · have HNx : Hid (∀ p k, p < i + 1 → k < n → (E p k && A' k p) = false) := fun p q hp hq => by
            by_cases e : p = i
            · subst e; exact HZ2.out q (by omega)
            · exact HZ.out p q (by omega) hq
          go_wp2
          go_roundw
          case rel => exact ⟨i + 1, by omega, by go_num, HNx.out, trivial⟩
          case measure => simp [intOf]; omega
    · have HE := hideIt (HN.out fun p q hp hq => HZ.out p q (by omega) hq)
      go_wp2
      go_ret
      exact ⟨ret_bool HE.out.symm, HB.out⟩

set_option maxRecDepth 100000 in
set_option maxHeartbeats 2000000 in
theorem together_any (n : Nat) (hn : n ≤ 60) (A A' : Nat → Nat → Bool) (v v' : Value) (w : World) (h : ReadM w v n A) (h' : ReadM w v' n A') :
    Calls Tryd.prog 39 #[v, v'] w fun e w' => MatTold n (orR A A') w e w' := by
  have HBl := hideIt (blankP_any n hn w)
  have HR := hideIt h
  have HR' := hideIt h'
  obtain ⟨a, cap, rfl, hc, _⟩ := h
  obtain ⟨a', cap', rfl, hc', _⟩ := h'
  go_enter Tryd.func39, Tryd.ntmps39
  go_wp2_with fail
  refine HBl.out.mono ?_
  rintro e w1 ⟨B, rb, rfl, hM, hb⟩
  have HM := hideIt hM
  have HB := hideIt hb
  have HRw : Hid (∀ W, Below w.heap.size w W → (∀ i, i < n → ∃ g off r, a = some ⟨g, off, none⟩ ∧ W.cell? ⟨g, off + i, none⟩ = some (.slice (some ⟨r, 0, none⟩) n n) ∧ ∀ k, k < n → W.cell? ⟨r, k, none⟩ = some (.bool (A i k))) ∧ ∀ i, i < n → ∃ g off r, a' = some ⟨g, off, none⟩ ∧ W.cell? ⟨g, off + i, none⟩ = some (.slice (some ⟨r, 0, none⟩) n n) ∧ ∀ k, k < n → W.cell? ⟨r, k, none⟩ = some (.bool (A' i k))) := fun W hW => ⟨readM_rows (HR.out.below hW), readM_rows (HR'.out.below hW)⟩
  clear hM hb HBl HR HR'
  go_wp2
  go_loopw [14] (fun x wr => ∃ i : Nat, i ≤ n ∧ x = .int .i64 i ∧ MatAt wr w.heap.size B n n rb (fun p k => decide (p < i) && orR A A' p k) ∧ Below w.heap.size w wr) (fun x _ => n - (intOf x).toNat)
  case atStart => exact ⟨0, by omega, rfl, HM.out.same fun p k _ _ => by simp, HB.out⟩
  case round =>
    clear HM HB
    obtain ⟨i, hi, rfl, hM, hb⟩ := hrel
    have HM := hideIt hM
    have HB := hideIt hb
    clear hM hb
    by_cases hin : i < n
    · have hin' : (i : Int) < n := by omega
      have m0 := HM.out.head i hin
      go_wp2
      go_loopw [21] (fun x wz => ∃ k : Nat, k ≤ n ∧ x = .int .i64 k ∧ MatAt wz w.heap.size B n n rb (fun p q => (decide (p < i) || (decide (p = i) && decide (q < k))) && orR A A' p q) ∧ Below w.heap.size w wz) (fun x _ => n - (intOf x).toNat)
      case atStart => exact ⟨0, by omega, rfl, HM.out.same fun p q _ _ => by simp, HB.out⟩
      case round =>
        clear HM HB m0
        obtain ⟨k, hk, rfl, hM, hb⟩ := hrel
        have HM := hideIt hM
        have HB := hideIt hb
        clear hM hb
        by_cases hkn : k < n
        · have hkn' : (k : Int) < n := by omega
          have m0 := HM.out.head i hin
          obtain ⟨hr, hr'⟩ := HRw.out _ HB.out
          obtain ⟨g, off, r, rfl, x0, x1⟩ := hr i hin
          obtain ⟨g', off', r', rfl, y0, y1⟩ := hr' i hin
          have x2 := x1 k hkn
          have y2 := y1 k hkn
          clear x1 y1
          have z1 := (HM.out.row i hin).bit k hkn
          have z2 := (HM.out.row i hin).fz k
          have hge := (HM.out.from_ i hin).1
          have HPut : Hid (∀ x, (A i k || A' i k) = x → MatAt (wr.setCell ⟨rb i, k, none⟩ (.bool x)) w.heap.size B n n rb (fun p q => (decide (p < i) || (decide (p = i) && decide (q < k + 1))) && orR A A' p q) ∧ Below w.heap.size w (wr.setCell ⟨rb i, k, none⟩ (.bool x))) := fun x hx =>
            ⟨(HM.out.put hin hkn x).same fun p q _ _ => by
              by_cases e : p = i ∧ q = k
              · rw [if_pos e, e.1, e.2, show orR A A' i k = x from hx]; simp
              · rw [if_neg e]
                congr 1
                by_cases e1 : p = i
                · have e2 : q ≠ k := fun h => e ⟨e1, h⟩
                  have : (q < k + 1) = (q < k) := propext (by omega)
                  simp [e1, this]
                · simp [e1],
            HB.out.setCell (p := ⟨rb i, k, none⟩) hge _⟩
          generalize A i k = p at *
          generalize A' i k = q at *
          generalize ((decide (i < i) || (decide (i = i) && decide (k < k))) && orR A A' i k) = old at z1
          clear hr hr' HM HB
          cases p
          · cases q
            · have HP := hideIt (HPut.out false rfl)
              clear HPut
              go_wp2
              go_roundw
              case rel => exact ⟨k + 1, by omega, by go_num, HP.out⟩
              case measure => simp [intOf]; omega
            · have HP := hideIt (HPut.out true rfl)
              clear HPut
              go_wp2
              go_roundw
              case rel => exact ⟨k + 1, by omega, by go_num, HP.out⟩
              case measure => simp [intOf]; omega
          · have HP := hideIt (HPut.out true rfl)
            clear HPut
            go_wp2
            go_roundw
            case rel => exact ⟨k + 1, by omega, by go_num, HP.out⟩
            case measure => simp [intOf]; omega
        · have HM1 : Hid (MatAt wr w.heap.size B n n rb (fun p k => decide (p < i + 1) && orR A A' p k)) := HM.out.same fun p q _ hq => by
            congr 1
            have : q < k := by omega
            rw [Bool.eq_iff_iff]
            simp [this]
            omega
          go_wp2
          go_roundw
          case rel => exact ⟨i + 1, by omega, by go_num, HM1.out, HB.out⟩
          case measure => simp [intOf]; omega
    · have HM1 : Hid (MatAt wr w.heap.size B n n rb (orR A A')) := HM.out.same fun p q hp _ => by
        have : p < i := by omega
        simp [this]
      go_wp2
      go_ret
      exact ⟨B, rb, rfl, HM1.out, HB.out⟩
end Go.Proofs.YtaopigjhdkdklaaDoor

namespace Go.Proofs.YtaopigjhdkdklaaDoor
open Go.RowKit Go.Shelf
attribute [local go_sem] Oper.semAt_some

/-- Who stands right behind one in a list, -1 if nobody does. -/
def behV (l : List Int) (f : Int) : Int := (l[(idxN l f + 1).toNat]?).getD (-1)
set_option maxRecDepth 100000 in
set_option maxHeartbeats 1000000 in
theorem behind_any (xs : List Int) (hn : xs.length ≤ maxLen) (x : Int) (a : Option Addr) (cap : Nat) (w : World) (h : IntsQ w a xs) :
    Calls Tryd.prog 48 #[.slice a xs.length cap, .int .i64 x] w fun e w' => e = .returned (.int .i64 (behV xs x)) ∧ w' = w := by
  have HI := hideIt (sIndex_any xs hn x a cap w h)
  have hb := @idxN_lt xs x
  have HV : Hid (behV xs x = (xs[(idxN xs x + 1).toNat]?).getD (-1)) := rfl
  generalize idxN xs x = r at *
  have HQ := hideIt h
  unfold maxLen at hn
  clear h
  obtain ⟨m, hm⟩ : ∃ m : Nat, r + 1 = (m : Int) := Int.eq_ofNat_of_zero_le (by omega)
  rw [hm, Int.toNat_natCast] at HV
  have hw : IntKind.i64.wrap (r + 1) = (m : Int) := by rw [IntKind.wrap_i64]; omega
  go_enter Tryd.func48, Tryd.ntmps48
  go_wp2_with fail
  refine HI.out.mono ?_
  rintro e w1 ⟨rfl, rfl⟩
  obtain rfl : r = (m : Int) - 1 := by omega
  rw [show (m : Int) - 1 + 1 = m by omega] at hw
  clear hm
  by_cases hl : m = xs.length
  · have HE : Hid (behV xs x = -1) := by rw [HV.out, List.getElem?_eq_none (by omega)]; rfl
    have e1 : ((m : Int) == (xs.length : Int)) = true := by rw [hl]; simp
    clear HV hl
    go_wp2
    go_ret
    exact ⟨ret_int HE.out.symm, rfl⟩
  · have hml : m < xs.length := by omega
    obtain ⟨g, off, rfl, hg, c0⟩ := HQ.out.at hml
    have HE : Hid (behV xs x = xs[m]) := by rw [HV.out, List.getElem?_eq_getElem hml]; rfl
    have e1 : ((m : Int) == (xs.length : Int)) = false := by rw [beq_eq_false_iff_ne]; omega
    have hml' : (m : Int) < xs.length := by omega
    generalize xs[m] = y at *
    clear HV
    go_wp2
    go_ret
    exact ⟨ret_int HE.out.symm, rfl⟩

/-! ### what those read that commit -/
def rdT (t : ITx) (m : Nat) : List IOp := if t.com = true then (t.ops.take m).filter (fun o => !o.wr) else []
/-- Of the first transactions. -/
def rdN (s : ISt) (n : Nat) : List (Nat × IOp) := (List.range n).flatMap fun (i : Nat) => (rdT (txI s (i : Int)) (txI s (i : Int)).ops.length).map fun o => (i, o)
/-- And of the next one's first ops. -/
def rdP (s : ISt) (i m : Nat) : List (Nat × IOp) := rdN s i ++ (rdT (txI s (i : Int)) m).map fun o => (i, o)
def rdI (s : ISt) : List (Nat × IOp) := rdN s s.txs.length
theorem rdN_succ (s : ISt) (n : Nat) : rdN s (n + 1) = rdP s n (txI s (n : Int)).ops.length := by
  unfold rdP rdN
  rw [List.range_succ, List.flatMap_append]
  simp
theorem rdP_zero (s : ISt) (i : Nat) : rdP s i 0 = rdN s i := by
  unfold rdP rdT
  simp
theorem rdP_quiet {s : ISt} {i : Nat} (h : comI s (i : Int) = false) (m : Nat) : rdP s i m = rdN s i := by
  unfold rdP rdT
  rw [show (txI s (i : Int)).com = false from h]
  simp
theorem rdP_skip {s : ISt} {i m : Nat} (hm : m < (txI s (i : Int)).ops.length) (h : (txI s (i : Int)).ops[m].wr = true) : rdP s i (m + 1) = rdP s i m := by
  unfold rdP rdT
  congr 2
  split
  · rw [List.take_add_one, List.getElem?_eq_getElem hm, List.filter_append]
    simp [h]
  · rfl
theorem rdP_more {s : ISt} {i m : Nat} (hc : comI s (i : Int) = true) (hm : m < (txI s (i : Int)).ops.length) (h : (txI s (i : Int)).ops[m].wr = false) : rdP s i (m + 1) = rdP s i m ++ [(i, (txI s (i : Int)).ops[m])] := by
  unfold rdP rdT
  rw [show (txI s (i : Int)).com = true from hc, if_pos rfl, if_pos rfl, List.take_add_one, List.getElem?_eq_getElem hm, List.filter_append]
  simp [h]
theorem rdN_pre (s : ISt) {n k : Nat} (h : n ≤ k) : rdN s n <+: rdN s k := by
  induction k with
  | zero => obtain rfl : n = 0 := by omega
            exact List.prefix_refl _
  | succ k ih =>
    by_cases e : n = k + 1
    · subst e; exact List.prefix_refl _
    · refine (ih (by omega)).trans ?_
      rw [rdN_succ]
      exact List.prefix_append _ _
theorem rdP_pre (s : ISt) {i m : Nat} (hi : i < s.txs.length) : rdP s i m <+: rdI s := by
  refine List.IsPrefix.trans ?_ (rdN_pre s (show i + 1 ≤ s.txs.length by omega))
  rw [rdN_succ]
  unfold rdP rdT
  rw [List.prefix_append_right_inj]
  refine List.IsPrefix.map _ ?_
  split
  · refine List.IsPrefix.filter _ ?_
    rw [List.take_length]
    exact List.take_prefix _ _
  · exact List.prefix_refl _
/-- The rounds. -/
abbrev RdI (s : ISt) := { k : Nat // k < (rdI s).length }
def rdA (s : ISt) (x : RdI s) : Nat × IOp := (rdI s)[x.1]
def encR (s : ISt) (x : RdI s) : Array Value := #[.int .i64 ((rdA s x).1 : Int), (rdA s x).2.agg]
theorem rd_next {s : ISt} {i m : Nat} (hi : i < s.txs.length) (hc : comI s (i : Int) = true) (hm : m < (txI s (i : Int)).ops.length) (h : (txI s (i : Int)).ops[m].wr = false) : ∃ hx : (rdP s i m).length < (rdI s).length, rdA s ⟨_, hx⟩ = (i, (txI s (i : Int)).ops[m]) := by
  have hp := rdP_pre s (i := i) (m := m + 1) hi
  rw [rdP_more hc hm h] at hp
  obtain ⟨r, hr⟩ := hp
  have hx : (rdP s i m).length < (rdI s).length := by rw [← hr]; simp
  refine ⟨hx, ?_⟩
  unfold rdA
  simp only [← hr, List.append_assoc]
  rw [List.getElem_append_right (Nat.le_refl _)]
  simp
/-- What a round keeps: all that lay below n₀, and the iterator's own boxes. -/
def KeptR (n₀ L H : Nat) (W W' : World) : Prop := Below n₀ W W' ∧ ∀ b, L ≤ b → b < H → W'.heap[b]? = W.heap[b]?
theorem keptR_t {n₀ L H : Nat} {A B C : World} (h : KeptR n₀ L H A B) (k : KeptR n₀ L H B C) : KeptR n₀ L H A C := ⟨h.1.trans k.1, fun b h1 h2 => (k.2 b h1 h2).trans (h.2 b h1 h2)⟩
theorem keptR_b {n₀ L H : Nat} {w : World} (hn : n₀ ≤ w.heap.size) (hH : H ≤ w.heap.size) (W : World) (l : Nat) (o o' : Obj) (hl : w.heap.size ≤ l) (h : W.heap[l]? = some o) (h1 : o.isCells = false) (h2 : o.isWalk = false) : KeptR n₀ L H W (W.putObj l o') :=
  ⟨belowK_b hn W l o o' hl h h1 h2, fun b _ hb => World.putObj_heap_other (by omega)⟩
/-- What the iterator holds: its story's box, the box of 'commits', and that one's own box of the story. -/
structure RdAt (w : World) (a b : Option Addr) (ca cb : Nat) (s : ISt) (n₀ L H Bs Bc Bq : Nat) : Prop where
  sty : StyQ w a ca b cb s
  lo : L ≤ Bs ∧ Bs < H ∧ L ≤ Bc ∧ Bc < H ∧ L ≤ Bq ∧ Bq < H
  box : w.cell? ⟨Bs, 0, none⟩ = some (.slice a s.txs.length ca)
  com : w.cell? ⟨Bc, 0, none⟩ = some (.func (.func 61) #[] #[.pointer (some ⟨Bq, 0, none⟩)])
  boq : w.cell? ⟨Bq, 0, none⟩ = some (.slice a s.txs.length ca)
set_option maxRecDepth 100000 in
theorem reads_any (s : ISt) (a b : Option Addr) (ca cb : Nat) (w : World) :
    Calls Tryd.prog 36 #[.agg #[.slice a s.txs.length ca, .slice b s.ord.length cb]] w fun e w' => e = .returned (.func (.func 63) #[] #[.pointer (some ⟨w.heap.size, 0, none⟩), .pointer (some ⟨w.heap.size + 1 + 1, 0, none⟩)]) ∧
      w' = ((w.alloc (.cells #[.slice a s.txs.length ca, .slice b s.ord.length cb] 44)).alloc (.cells #[.slice a s.txs.length ca, .slice b s.ord.length cb] 44)).alloc (.cells #[.func (.func 61) #[] #[.pointer (some ⟨w.heap.size + 1, 0, none⟩)]] 100) := by
  go_enter Tryd.func36, Tryd.ntmps36
  go_wp2_with fail
  refine (committing_any _ a b s.txs.length ca s.ord.length cb _ rfl).mono ?_
  rintro e w1 ⟨rfl, rfl⟩
  go_wp2
  go_ret
  exact ⟨rfl, rfl⟩

theorem rdSnoc {s : ISt} {pre : List (RdI s)} {k : Nat} (hk : k < (rdI s).length) (h : pre.map (·.1) = List.range k) : (pre ++ [(⟨k, hk⟩ : RdI s)]).map (fun x => x.1) = List.range (k + 1) := by
  rw [List.map_append, h, List.range_succ]; rfl
theorem rangePre (k n : Nat) (h : k ≤ n) : List.range k <+: List.range n := by
  have : List.range k = (List.range n).take k := by rw [List.take_range, Nat.min_eq_left h]
  rw [this]; exact List.take_prefix _ _
theorem RdAt.kept {w w' : World} {a b : Option Addr} {ca cb : Nat} {s : ISt} {n₀ L H Bs Bc Bq : Nat} {w₀ : World} (h : RdAt w a b ca cb s n₀ L H Bs Bc Bq) (h0 : StyQ w₀ a ca b cb s) (hn : n₀ = w₀.heap.size) (hb : Below n₀ w₀ w) (hk : KeptR n₀ L H w w') : RdAt w' a b ca cb s n₀ L H Bs Bc Bq := by
  subst hn
  exact ⟨h0.below (hb.trans hk.1), h.lo, (World.cell?_of_block (a := ⟨Bs, 0, none⟩) (hk.2 Bs h.lo.1 h.lo.2.1)).trans h.box, (World.cell?_of_block (a := ⟨Bc, 0, none⟩) (hk.2 Bc h.lo.2.2.1 h.lo.2.2.2.1)).trans h.com, (World.cell?_of_block (a := ⟨Bq, 0, none⟩) (hk.2 Bq h.lo.2.2.2.2.1 h.lo.2.2.2.2.2)).trans h.boq⟩

set_option maxRecDepth 100000 in
set_option maxHeartbeats 4000000 in
theorem reads1_in (s : ISt) (a b : Option Addr) (ca cb n₀ L H Bs Bc Bq : Nat) (n : Nat) (hn : 1 ≤ n) (y : Nat) (w₀ : World) (hw₀ : StyQ w₀ a ca b cb s) (hn₀ : n₀ = w₀.heap.size) (J Jx : List (RdI s) → World → Prop) (W : World)
    (hY : ∀ pre x W1, J pre W1 → pre.length < (rdI s).length → YieldAt Fence.wide (n - 1) Tryd.prog y (encR s x) W1 fun e W' =>
      (e = .returned (.bool true) ∧ J (pre ++ [x]) W' ∧ KeptR n₀ L H W1 W') ∨ (e = .returned (.bool false) ∧ Jx (pre ++ [x]) W'))
    (hJ : AbidesFrom W.heap.size J) (hH : H ≤ W.heap.size) (hR : RdAt W a b ca cb s n₀ L H Bs Bc Bq) (hb : Below n₀ w₀ W) (h0 : J [] W) :
    CallsIn Fence.wide n Tryd.prog 63 #[.func (.yield y) #[] #[], .pointer (some ⟨Bs, 0, none⟩), .pointer (some ⟨Bc, 0, none⟩)] W fun e W' => (∃ v, e = .returned v) ∧
      ((∃ xs, xs.map (·.1) = List.range (rdI s).length ∧ J xs W') ∨ (∃ pre, pre.map (·.1) <+: List.range (rdI s).length ∧ Jx pre W')) := by
  have HY := hideIt hY
  have HJ := hideIt hJ
  have HW0 := hideIt hw₀
  have HR := hideIt hR
  have HB := hideIt hb
  have hm := hw₀.tmax
  have hx0 := hR.box
  have hx1 := hR.com
  have hlo := hR.lo
  unfold maxLen at hm
  clear hY hJ hw₀ hR hb
  refine callsIn_of_wp Tryd.func63 rfl trivial ?_ rfl
  simp only [Tryd.ntmps63, List.size_toArray, List.length_cons, List.length_nil, Nat.reduceAdd, Nat.reduceSub, Array.replicate_succ, Array.replicate_zero, List.push_toArray, List.append_toArray, List.nil_append, List.cons_append]
  gi_wp2
  gi_loopw [10] (fun p wr => ∃ (i : Nat) (pre : List (RdI s)), i ≤ s.txs.length ∧ p = .int .i64 i ∧ pre.map (·.1) = List.range (rdN s i).length ∧ RdAt wr a b ca cb s n₀ L H Bs Bc Bq ∧ J pre wr ∧ Below n₀ w₀ wr ∧ W.heap.size ≤ wr.heap.size)
    (fun p _ => s.txs.length - (intOf p).toNat)
  case atStart => exact ⟨0, [], Nat.zero_le _, rfl, rfl, HR.out, h0, HB.out, Nat.le_refl _⟩
  case round =>
    clear HR HB hx0 hx1
    obtain ⟨i, pre, hi, rfl, hpre, hR, hJs, hb, hsz⟩ := hrel
    have HPR := hideIt hpre
    have HJS := hideIt hJs
    have HR := hideIt hR
    have HB := hideIt hb
    have hx0 := hR.box
    have hx1 := hR.com
    clear hJs hpre hR hb
    by_cases hin : i < s.txs.length
    · have hin' : (i : Int) < s.txs.length := by omega
      have HC := hideIt (commits_any s a b ca cb Bq i wr HR.out.sty HR.out.boq hin)
      obtain ⟨g, off, rfl, hg, oa, oc, o1, o2, o3, o4, o5⟩ := HW0.out.tx hin
      have HO := hideIt o4
      have HTx : Hid (txI s (i : Int) = s.txs[i]) := txI_at hin
      have o1 := (HB.out.cell (p := ⟨g, off + i * 2, none⟩) (by show g < n₀; omega)).trans o1
      have HMo : Hid (∀ m (hm : m < s.txs[i].ops.length), comI s (i : Int) = true → s.txs[i].ops[m].wr = false → rdP s i (m + 1) = rdP s i m ++ [(i, s.txs[i].ops[m])] ∧ ∃ hx : (rdP s i m).length < (rdI s).length, rdA s ⟨_, hx⟩ = (i, s.txs[i].ops[m])) := fun m hm hc h => by
        have h1 : m < (txI s (i : Int)).ops.length := by rw [HTx.out]; exact hm
        have h2 : (txI s (i : Int)).ops[m] = s.txs[i].ops[m] := by simp only [HTx.out]
        rw [← h2] at h ⊢
        exact ⟨rdP_more hc h1 h, rd_next hin hc h1 h⟩
      have HSk : Hid (∀ m (hm : m < s.txs[i].ops.length), s.txs[i].ops[m].wr = true → rdP s i (m + 1) = rdP s i m) := fun m hm h => by
        have h1 : m < (txI s (i : Int)).ops.length := by rw [HTx.out]; exact hm
        have h2 : (txI s (i : Int)).ops[m] = s.txs[i].ops[m] := by simp only [HTx.out]
        rw [← h2] at h
        exact rdP_skip h1 h
      have HEn : Hid (rdN s (i + 1) = rdP s i s.txs[i].ops.length) := by
        show rdN s (i + 1) = _
        rw [rdN_succ, HTx.out]
      generalize s.txs[i] = T at *
      unfold maxLen at o3
      clear o4 o5
      gi_wp2
      refine ⟨trivial, ?_⟩
      refine (callsIn_wide.2 HC.out).mono ?_
      rintro e w2 ⟨rfl, rfl⟩
      clear HC
      cases hco : comI s (i : Int)
      · have HPN : Hid (pre.map (·.1) = List.range (rdN s (i + 1)).length) := by
          show pre.map (·.1) = _
          rw [HEn.out, rdP_quiet hco]
          exact HPR.out
        clear HMo HSk HEn
        gi_wp2
        exact ⟨⟨i + 1, pre, by omega, by go_num, HPN.out, HR.out, HJS.out, HB.out, hsz⟩, by simp [intOf]; omega⟩
      · gi_wp2
        gi_loopw [24] (fun p wz => ∃ (m : Nat) (pre : List (RdI s)), m ≤ T.ops.length ∧ p = .int .i64 m ∧ pre.map (·.1) = List.range (rdP s i m).length ∧ RdAt wz (some ⟨g, off, none⟩) b ca cb s n₀ L H Bs Bc Bq ∧ J pre wz ∧ Below n₀ w₀ wz ∧ W.heap.size ≤ wz.heap.size)
          (fun p _ => T.ops.length - (intOf p).toNat)
        case atStart => exact ⟨0, pre, Nat.zero_le _, rfl, by rw [rdP_zero]; exact HPR.out, HR.out, HJS.out, HB.out, hsz⟩
        case round =>
          clear HR HB hx0 hx1 HPR HJS hsz o1
          obtain ⟨m, pre, hm, rfl, hpre, hR, hJs, hb, hsz⟩ := hrel
          have HPR := hideIt hpre
          have HJS := hideIt hJs
          have HR := hideIt hR
          have HB := hideIt hb
          have hplen : pre.length = (rdP s i m).length := by have := congrArg List.length hpre; simpa using this
          clear hJs hpre hR hb
          by_cases hml : m < T.ops.length
          · have hml' : (m : Int) < T.ops.length := by omega
            obtain ⟨g2, off2, rfl, hg2, p1, p2, p3, p4⟩ := (HO.out.below (hn₀ ▸ HB.out)).at hml
            have HMm := hideIt (HMo.out m hml hco)
            have HSm := hideIt (HSk.out m hml)
            generalize T.ops[m] = o at *
            obtain ⟨owr, okey, ofrm, onum⟩ := o
            have HJ2 := hideIt (HJ.out pre wr (wr.alloc (.cells #[.bool owr, .int .i64 okey, .int .i64 ofrm, .int .i64 onum] 84)) none HJS.out (World.grownBy_alloc _ _ none) (fun r e => by cases e))
            have HKa : Hid (KeptR n₀ L H wr (wr.alloc (.cells #[.bool owr, .int .i64 okey, .int .i64 ofrm, .int .i64 onum] 84))) := ⟨(Below.refl _ _).alloc (by have := HB.out.size; omega) _, fun x _ hx => Below.heap_alloc _ _ _ (by omega)⟩
            have HR2 := hideIt (HR.out.kept HW0.out hn₀ HB.out HKa.out)
            have HB2 := hideIt (HB.out.trans HKa.out.1)
            have hs2 : W.heap.size ≤ (wr.alloc (.cells #[.bool owr, .int .i64 okey, .int .i64 ofrm, .int .i64 onum] 84)).heap.size := by simp; omega
            cases owr
            · obtain ⟨hPm, hx, hA⟩ := HMm.out rfl
              have HPm := hideIt hPm
              obtain ⟨fn, tmps, assign, body, hy, hYR⟩ := HY.out pre ⟨_, hx⟩ _ HJ2.out (by omega)
              unfold encR at hy
              rw [hA] at hy
              dsimp only [IOp.agg] at hy
              have HYR := hideIt hYR
              clear hYR HMm HSm hPm hA
              gi_wp2
              refine HYR.out.mono ?_
              rintro e W3 (⟨rfl, hJ3, hk3⟩ | ⟨rfl, hJx3⟩)
              · have HJ3 := hideIt hJ3
                have HK3 := hideIt hk3
                have HR3 := hideIt (HR2.out.kept HW0.out hn₀ HB2.out hk3)
                have HB3 := hideIt (HB2.out.trans hk3.1)
                have hs3 : W.heap.size ≤ W3.heap.size := Nat.le_trans hs2 hk3.1.size
                have HPN : Hid ((pre ++ [(⟨_, hx⟩ : RdI s)]).map (·.1) = List.range (rdP s i (m + 1)).length) := by
                  show (pre ++ [(⟨_, hx⟩ : RdI s)]).map (·.1) = _
                  rw [HPm.out, List.length_append, rdSnoc hx HPR.out]; rfl
                clear hJ3 hk3
                gi_wp2
                exact ⟨⟨m + 1, _, by omega, by go_num, HPN.out, HR3.out, HJ3.out, HB3.out, hs3⟩, by simp [intOf]; omega⟩
              · have HE : Hid ((∃ v : Value, Ending.returned (.tuple #[]) = .returned v) ∧ ((∃ xs : List (RdI s), xs.map (·.1) = List.range (rdI s).length ∧ J xs W3) ∨ (∃ pre : List (RdI s), pre.map (·.1) <+: List.range (rdI s).length ∧ Jx pre W3))) :=
                  ⟨⟨_, rfl⟩, .inr ⟨_, by rw [rdSnoc hx HPR.out]; exact rangePre _ _ (by omega), hJx3⟩⟩
                clear hJx3
                gi_wp2
                refine bodyPost_ret (results_none rfl _ _ _) rfl ?_
                exact HE.out
            · have HPN : Hid (pre.map (·.1) = List.range (rdP s i (m + 1)).length) := by
                show pre.map (·.1) = _
                rw [HSm.out rfl]
                exact HPR.out
              clear HMm HSm
              gi_wp2
              refine ⟨fun _ h => (by cases h), ?_⟩
              gi_wp2
              exact ⟨⟨m + 1, pre, by omega, by go_num, HPN.out, HR2.out, HJ2.out, HB2.out, hs2⟩, by simp [intOf]; omega⟩
          · have HPN : Hid (pre.map (·.1) = List.range (rdN s (i + 1)).length) := by
              show pre.map (·.1) = _
              rw [HEn.out, show T.ops.length = m by omega]
              exact HPR.out
            gi_wp2
            exact ⟨⟨i + 1, pre, by omega, by go_num, HPN.out, HR.out, HJS.out, HB.out, hsz⟩, by simp [intOf]; omega⟩
    · have HPN : Hid (pre.map (·.1) = List.range (rdI s).length) := by
        show pre.map (·.1) = _
        rw [HPR.out]
        unfold rdI
        rw [show i = s.txs.length by omega]
      have HE : Hid ((∃ v : Value, Ending.returned (.tuple #[]) = .returned v) ∧ ((∃ xs : List (RdI s), xs.map (·.1) = List.range (rdI s).length ∧ J xs wr) ∨ (∃ pre : List (RdI s), pre.map (·.1) <+: List.range (rdI s).length ∧ Jx pre wr))) :=
        ⟨⟨_, rfl⟩, .inl ⟨pre, HPN.out, HJS.out⟩⟩
      gi_wp2
      go_end0
      exact HE.out
theorem reads_stops (s : ISt) (a b : Option Addr) (ca cb n₀ L H Bs Bc Bq : Nat) (n : Nat) (hn : 1 ≤ n) (w₀ w : World) (hw₀ : StyQ w₀ a ca b cb s) (hn₀ : n₀ = w₀.heap.size) (hb : Below n₀ w₀ w) (hH : H ≤ w.heap.size) (hR : RdAt w a b ca cb s n₀ L H Bs Bc Bq) :
    SeqStopsK Fence.wide n Tryd.prog 63 #[.pointer (some ⟨Bs, 0, none⟩), .pointer (some ⟨Bc, 0, none⟩)] (encR s) (KeptR n₀ L H) (fun xs => xs.map (fun x => x.1) = List.range (rdI s).length) (fun pre => pre.map (fun x => x.1) <+: List.range (rdI s).length) (rdI s).length w :=
  fun y J Jx W hW hJ _ hY h0 => reads1_in s a b ca cb n₀ L H Bs Bc Bq n hn y w₀ hw₀ hn₀ J Jx W hY hJ (Nat.le_trans hH hW.size) (hR.kept hw₀ hn₀ hb ⟨hW.mono (by have := hb.size; omega), fun x _ hx => hW.block x (by omega)⟩) (hb.trans (hW.mono (by have := hb.size; omega))) h0
end Go.Proofs.YtaopigjhdkdklaaDoor
