/-
  The program's blank and over, walked: a graph that is made, and set bit by bit.
-/
import Derived.Test.YtodanhjookgbeaaIhW
import Derived.Test.YtodanhjookgbeaaClW
namespace Go.Proofs.Ytodanhjookgbeaa
open Go.RowKit

/-- What a function tells that makes a graph. -/
def MatTold (n : Nat) (A : Nat → Nat → Bool) (w : World) (e : Ending) (w' : World) : Prop :=
  ∃ B rb, e = .returned (.slice (some ⟨B, 0, none⟩) n n) ∧ MatAt w' w.heap.size B n n rb A ∧ Below w.heap.size w w'

set_option maxRecDepth 100000 in
set_option maxHeartbeats 2000000 in
theorem blankP_any (n : Nat) (hn : n ≤ 60) (w : World) : Calls Try.prog 25 #[.int .i64 (n : Int)] w fun e w' => MatTold n (fun _ _ => false) w e w' := by
  have hmk := made_graph w n hn
  have HM0 := hideIt (mat_made w n)
  have HB0 : Hid (Below w.heap.size w (w.alloc (.cells (madeCells #[.slice none 0 0] n) 27))) := belA (Below.refl _ _) _
  go_enter Try.func25, Try.ntmps25
  go_wp2
  clear hmk
  generalize w.alloc _ = W1 at HM0 HB0 ⊢
  go_loopw [9] (fun v wr => ∃ (m : Nat) (cb : Nat → Nat), m ≤ n ∧ v = .int .i64 m ∧ MatAt wr w.heap.size w.heap.size n m cb (fun _ _ => false) ∧ Below w.heap.size w wr) (fun v _ => n - (intOf v).toNat)
  case atStart => exact ⟨0, _, Nat.zero_le _, rfl, HM0.out, HB0.out⟩
  case round =>
    clear HM0 HB0
    obtain ⟨m, cb, hm, rfl, hM, hb⟩ := hrel
    have HM := hideIt hM
    have HB := hideIt hb
    clear hM hb
    by_cases hmn : m < n
    · have hmn' : (m : Int) < n := by omega
      have hmk := made_bits wr n hn
      have HMa := hideIt (HM.out.alloc (.cells (madeCells #[.bool false] n) 4))
      have HN1 := hideIt (bits_made wr n)
      have hBl := HM.out.lt
      have hBs := HB.out.size
      obtain ⟨ov, hov⟩ := HMa.out.room m hmn
      have hfz := HMa.out.fz m
      have HB1 : Hid (Below w.heap.size w ((wr.alloc (.cells (madeCells #[.bool false] n) 4)).setCell ⟨w.heap.size, m, none⟩ (.slice (some ⟨wr.heap.size, 0, none⟩) n n))) := (belA HB.out _).setCell (p := ⟨w.heap.size, m, none⟩) (Nat.le_refl _) _
      have HM2 : Hid (MatAt ((wr.alloc (.cells (madeCells #[.bool false] n) 4)).setCell ⟨w.heap.size, m, none⟩ (.slice (some ⟨wr.heap.size, 0, none⟩) n n)) w.heap.size w.heap.size n (m + 1) (fun i => if i = m then wr.heap.size else cb i) (fun _ _ => false)) :=
        (HMa.out.add hmn HN1.out hBs (by omega) (fun i hi => Nat.ne_of_lt (HM.out.row i hi).lt)).same fun i k _ _ => by
          by_cases e : i = m
          · rw [if_pos e]
          · rw [if_neg e]
      rw [World.setCell_alloc_past _ _ _ _ hBl] at HM2 HB1
      clear HMa HN1 HM
      go_wp2
      go_roundw
      case rel => exact ⟨m + 1, _, by omega, by go_num, HM2.out, HB1.out⟩
      case measure => simp [intOf]; omega
    · obtain rfl : m = n := by omega
      go_wp2
      go_ret
      exact ⟨_, cb, rfl, HM.out, HB.out⟩

/-- The first pairs of a list, one right behind the other. -/
def ovK (l : List Int) (n : Nat) (i k : Nat) : Bool := (List.range n).any fun j => l[j]? == some (i : Int) && l[j + 1]? == some (k : Int)
/-- Of the first keys' lists. -/
def ovS (s : ISt) (q : Nat) (i k : Nat) : Bool := (List.range q).any fun x => ovK (lstK s (x : Int)) (lstK s (x : Int)).length i k
def ovB (s : ISt) (i k : Nat) : Bool := ovS s 8 i k
theorem ovK_zero (l : List Int) (i k : Nat) : ovK l 0 i k = false := rfl
theorem ovK_succ (l : List Int) (n i k : Nat) : ovK l (n + 1) i k = (ovK l n i k || (l[n]? == some (i : Int) && l[n + 1]? == some (k : Int))) := by
  unfold ovK
  rw [List.range_succ, List.any_append]
  simp
theorem ovS_succ (s : ISt) (q i k : Nat) : ovS s (q + 1) i k = (ovS s q i k || ovK (lstK s (q : Int)) (lstK s (q : Int)).length i k) := by
  unfold ovS
  rw [List.range_succ, List.any_append]
  simp
theorem ovK_last {l : List Int} {n : Nat} (h : n + 1 = l.length) (i k : Nat) : ovK l (n + 1) i k = ovK l n i k := by
  rw [ovK_succ, List.getElem?_eq_none (i := n + 1) (by omega)]
  simp
theorem ovK_put {l : List Int} {n a b : Nat} (ha : l[n]? = some (a : Int)) (hb : l[n + 1]? = some (b : Int)) (i k : Nat) : (if i = a ∧ k = b then true else ovK l n i k) = ovK l (n + 1) i k := by
  rw [ovK_succ, ha, hb]
  by_cases e : i = a ∧ k = b
  · rw [if_pos e, e.1, e.2]; simp
  · rw [if_neg e]
    have : ((some (a : Int) == some (i : Int)) && (some (b : Int) == some (k : Int))) = false := by
      rw [Bool.and_eq_false_iff]
      by_cases e1 : i = a
      · right; simp; omega
      · left; simp; omega
    rw [this, Bool.or_false]

set_option maxRecDepth 100000 in
set_option maxHeartbeats 4000000 in
theorem over_any (s : ISt) (ok : IOk s) (a b : Option Addr) (ca cb : Nat) (w : World) (h : StyQ w a ca b cb s) :
    Calls Try.prog 24 #[.agg #[.slice a s.txs.length ca, .slice b s.ord.length cb]] w fun e w' => MatTold s.txs.length (ovB s) w e w' := by
  have HS := hideIt h
  have h8 := ok.few
  have HB : Hid (Below w.heap.size w (w.alloc (.cells #[.slice a s.txs.length ca, .slice b s.ord.length cb] 25))) := belA (Below.refl _ _) _
  obtain ⟨c0, c1⟩ := box2 w (.slice a s.txs.length ca) (.slice b s.ord.length cb) 25
  have HBl := hideIt (blankP_any s.txs.length (by omega) (w.alloc (.cells #[.slice a s.txs.length ca, .slice b s.ord.length cb] 25)))
  have hlt : w.heap.size < (w.alloc (.cells #[.slice a s.txs.length ca, .slice b s.ord.length cb] 25)).heap.size := by simp
  -- the lists hold transactions
  have HL : Hid (∀ q, q < 8 → ∀ j (hj : j < (lstK s (q : Nat)).length), ∃ t : Nat, t < s.txs.length ∧ (lstK s (q : Nat))[j] = (t : Int)) := fun q hq j hj => by
    have := ((ok.ord.mem (q : Int) _ (by omega) (by omega)).1 (List.getElem_mem hj)).1
    obtain ⟨t, ht⟩ := Int.eq_ofNat_of_zero_le this.1
    exact ⟨t, by omega, ht⟩
  have HO8 := hideIt ok.eight
  clear h ok
  go_enter Try.func24, Try.ntmps24
  go_wp2_with fail
  refine HBl.out.mono ?_
  rintro e w1 ⟨B, rb, rfl, hM, hb1⟩
  have HM := hideIt hM
  have HB1 := hideIt (belJ HB.out hb1)
  have d1 := (hb1.cell (p := ⟨w.heap.size, 1, none⟩) hlt).trans c1
  clear hM HBl c0 c1 hlt
  have hBB : (w.alloc (.cells #[.slice a s.txs.length ca, .slice b s.ord.length cb] 25)).heap.size = w.heap.size + 1 := by simp
  rw [hBB] at HM
  clear hb1 hBB HB
  go_wp2
  go_loopw [14] (fun v wr => ∃ q : Nat, q ≤ 8 ∧ v = .int .i64 q ∧ MatAt wr (w.heap.size + 1) B s.txs.length s.txs.length rb (ovS s q) ∧ wr.cell? ⟨w.heap.size, 1, none⟩ = some (.slice b s.ord.length cb) ∧ Below w.heap.size w wr) (fun v _ => 8 - (intOf v).toNat)
  case atStart => exact ⟨0, Nat.zero_le _, rfl, HM.out.same fun i k _ _ => rfl, d1, HB1.out⟩
  case round =>
    clear HM HB1 d1
    obtain ⟨q, hq, rfl, hM, d1, hb⟩ := hrel
    have HM := hideIt hM
    have HB := hideIt hb
    clear hM hb
    by_cases hq8 : q < 8
    · have hqo : q < s.ord.length := by rw [HO8.out]; exact hq8
      have hq' : (q : Int) < s.ord.length := by omega
      obtain ⟨g, off, rfl, hg, la, lc, l1, l2, l3, l4⟩ := HS.out.row hqo
      have HLq := hideIt (HL.out q hq8)
      have HSu := hideIt (ovS_succ s q)
      rw [lstK_at hqo] at HLq HSu
      have l1' := (HB.out.cell (p := ⟨g, off + q, none⟩) hg).trans l1
      have HLi := hideIt l4
      generalize s.ord[q] = L at *
      unfold maxLen at l3
      clear l4 l1
      go_wp2
      go_loopw [6] (fun v wz => ∃ m : Nat, (m + 1 ≤ L.length ∨ m = 0) ∧ v = .int .i64 ((m : Int) + 1) ∧ MatAt wz (w.heap.size + 1) B s.txs.length s.txs.length rb (fun i k => ovS s q i k || ovK L m i k) ∧ wz.cell? ⟨w.heap.size, 1, none⟩ = some (.slice (some ⟨g, off, none⟩) s.ord.length cb) ∧ Below w.heap.size w wz) (fun v _ => L.length + 1 - (intOf v).toNat)
      case atStart => exact ⟨0, .inr rfl, rfl, HM.out.same fun i k _ _ => by rw [ovK_zero, Bool.or_false], d1, HB.out⟩
      case round =>
        clear HM HB d1 l1'
        obtain ⟨m, hm, rfl, hM, d1, hb⟩ := hrel
        have HM := hideIt hM
        have HB := hideIt hb
        clear hM hb
        by_cases hml : m + 1 < L.length
        · have hml' : (m : Int) + 1 < L.length := by omega
          obtain ⟨t0, ht0, e0⟩ := HLq.out m (by omega)
          obtain ⟨t1, ht1, e1⟩ := HLq.out (m + 1) hml
          rcases HLi.out.below HB.out with hL0 | ⟨g2, off2, rfl, hg2, hcs⟩
          · rw [hL0] at hml; simp at hml
          have x0 := hcs m (by omega)
          have x1 := hcs (m + 1) hml
          rw [e0] at x0
          rw [e1] at x1
          have HPut : Hid (∀ i k, (if i = t0 ∧ k = t1 then true else (ovS s q i k || ovK L m i k)) = (ovS s q i k || ovK L (m + 1) i k)) := fun i k => by
            rw [← ovK_put (l := L) (n := m) (a := t0) (b := t1) (by rw [List.getElem?_eq_getElem (by omega), e0]) (by rw [List.getElem?_eq_getElem hml, e1])]
            by_cases e : i = t0 ∧ k = t1
            · rw [if_pos e, if_pos e, Bool.or_true]
            · rw [if_neg e, if_neg e]
          have y0 := HM.out.head t0 ht0
          have y1 := (HM.out.row t0 ht0).bit t1 ht1
          have y2 := (HM.out.row t0 ht0).fz t1
          have hge := (HM.out.from_ t0 ht0).1
          have HM1 := hideIt ((HM.out.put ht0 ht1 true).same fun i k _ _ => HPut.out i k)
          have HB1 := hideIt (HB.out.setCell (p := ⟨rb t0, t1, none⟩) (by show w.heap.size ≤ rb t0; omega) (.bool true))
          have HD1 : Hid ((wr.setCell ⟨rb t0, t1, none⟩ (.bool true)).cell? ⟨w.heap.size, 1, none⟩ = some (.slice (some ⟨g, off, none⟩) s.ord.length cb)) := (World.cell?_setCell_other _ _ _ _ (blkNe (by omega))).trans d1
          have ht0' : (t0 : Int) < s.txs.length := by omega
          have ht1' : (t1 : Int) < s.txs.length := by omega
          clear HPut hcs HM HB e0 e1
          generalize (ovS s q t0 t1 || ovK L m t0 t1) = old at y1
          go_wp2
          go_region
          go_wp2
          go_roundw
          case rel => exact ⟨m + 1, .inl (by omega), by go_num, HM1.out.drew, HD1.out, HB1.out.drew⟩
          case measure => simp [intOf]; omega
        · have HM1 : Hid (MatAt wr (w.heap.size + 1) B s.txs.length s.txs.length rb (ovS s (q + 1))) := HM.out.same fun i k _ _ => by
            rw [HSu.out]
            congr 1
            rcases hm with h | h
            · rw [← ovK_last (n := m) (by omega)]
              congr 1; omega
            · subst h
              have : L.length = 0 ∨ L.length = 1 := by omega
              rcases this with h | h
              · rw [h]
              · rw [h, ovK_last (n := 0) (by omega)]
          have hml' : ¬ (m : Int) + 1 < L.length := by omega
          go_wp2
          go_roundw
          case rel => exact ⟨q + 1, by omega, by go_num, HM1.out, d1, HB.out⟩
          case measure => simp [intOf]; omega
    · have hq' : ¬ (q : Int) < s.ord.length := by have := HO8.out; omega
      obtain rfl : q = 8 := by omega
      go_wp2
      go_ret
      exact ⟨B, rb, rfl, HM.out.mono (by omega), HB.out⟩
end Go.Proofs.Ytodanhjookgbeaa
