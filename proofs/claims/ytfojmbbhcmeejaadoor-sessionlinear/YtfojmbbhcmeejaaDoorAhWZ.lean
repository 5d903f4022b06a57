/-
  Package causal's ahead, walked.
  Package causal's least, walked (for the two conditions that it is asked with).
  Package causal's round, empty and stale, walked.
  Package causal's Check, Ahead and Finds, walked.
-/
import Derived.Test.YtfojmbbhcmeejaaDoorMapVZ
namespace Go.Proofs.YtfojmbbhcmeejaaDoor
open Go.RowKit

theorem OpAt.other {w : World} {b off : Nat} {x : Opn} (h : OpAt w b off x) {p : Addr} (hp : p.block ≠ b) (u : Value) : OpAt (w.setCell p u) b off x := by
  obtain ⟨h0, h1, h2, h3, h4, h5, h6, h7⟩ := h
  have hne : ∀ o, p ≠ ⟨b, o, none⟩ := fun o e => hp (by rw [e])
  refine ⟨?_, ?_, ?_, ?_, ?_, ?_, ?_, ?_⟩ <;> (rw [World.cell?_setCell_other _ _ _ _ (hne _)]; assumption)

/-- The matrix while row i is laid up to place j. -/
def midM (R : Nat → Nat → Bool) (i j : Nat) : Nat → Nat → Bool := fun a k => if a = i then (if k < j then R a k else false) else R a k
theorem midM_put (R : Nat → Nat → Bool) (i j a k : Nat) : (if a = i ∧ k = j then R i j else midM R i j a k) = midM R i (j + 1) a k := by
  unfold midM
  by_cases e : a = i
  · subst e
    by_cases e' : k = j
    · subst e'; simp
    · rw [if_neg (by omega), if_pos rfl, if_pos rfl]
      by_cases h : k < j
      · rw [if_pos h, if_pos (by omega)]
      · rw [if_neg h, if_neg (by omega)]
  · rw [if_neg (by omega), if_neg e, if_neg e]
theorem midM_end {R : Nat → Nat → Bool} {i n a k : Nat} (hk : k < n) : midM R i n a k = R a k := by
  unfold midM
  by_cases e : a = i
  · rw [if_pos e, if_pos hk]
  · rw [if_neg e]

theorem fin_mid {l : List Opn} {W0 w2 w : World} {base B n i j X : Nat} {rb2 : Nat → Nat} {x : Opn} (hm0 : MatAt W0 base B n (i + 1) rb2 (midM (roadB l) i j)) (ho0 : OpAt W0 X 0 x) (hne : rb2 i ≠ X) (hX : X < W0.heap.size) (hb0 : Below base w W0) (hi : i < i + 1) (hj : j < n) (h2 : Below W0.heap.size W0 w2) :
    MatAt (w2.setCell ⟨rb2 i, j, none⟩ (.bool (roadB l i j))) base B n (i + 1) rb2 (midM (roadB l) i (j + 1)) ∧ OpAt (w2.setCell ⟨rb2 i, j, none⟩ (.bool (roadB l i j))) X 0 x ∧ Below base w (w2.setCell ⟨rb2 i, j, none⟩ (.bool (roadB l i j))) ∧ X < (w2.setCell ⟨rb2 i, j, none⟩ (.bool (roadB l i j))).heap.size := by
  have hm2 := hm0.below h2
  refine ⟨(hm2.put hi hj _).same fun a k _ _ => midM_put _ _ _ _ _, (ho0.below hX h2).other (p := ⟨rb2 i, j, none⟩) hne _, ?_, ?_⟩
  · exact (hb0.trans (h2.mono (Nat.le_trans hm0.lo (Nat.le_of_lt hm0.lt)))).setCell (p := ⟨rb2 i, j, none⟩) (hm0.from_ i hi).1 _
  · have := h2.size
    simp; omega

set_option maxRecDepth 100000 in
set_option maxHeartbeats 4000000 in
theorem ahead_any (l : List Opn) (ok : KOk l) (a : Option Addr) (cap M : Nat) (w : World) (hl : OpsQ w a l) (hm : MapSp w M l.length (wrK l l.length)) (hM : M < w.heap.size) :
    Calls Tryd.prog 31 #[.map (some M), .slice a l.length cap] w fun e w' => ∃ B rb, e = .returned (.slice (some ⟨B, 0, none⟩) l.length l.length) ∧ MatAt w' w.heap.size B l.length l.length rb (aheadK l) ∧ Below w.heap.size w w' := by
  have hlen := ok.few
  have HL := hideIt hl
  have HM := hideIt hm
  have hmk := made_rows w l.length (by omega)
  clear hl hm
  go_enter Tryd.func31, Tryd.ntmps31
  go_wp2
  clear hmk
  go_loopw [16] (fun i wr => ∃ (k : Nat) (rb : Nat → Nat), k ≤ l.length ∧ i = .int .i64 k ∧ MatAt wr w.heap.size w.heap.size l.length k rb (roadB l) ∧ Below w.heap.size w wr) (fun i _ => l.length - (intOf i).toNat)
  case atStart => exact ⟨0, _, Nat.zero_le _, rfl, (mat_made w _).same (fun i k hi _ => absurd hi (by omega)), belA (Below.refl _ _) _⟩
  case round =>
    obtain ⟨i, rb, hi, rfl, hmat, hb⟩ := hrel
    have HMA := hideIt hmat
    have HB := hideIt hb
    clear hmat hb
    by_cases hil : i < l.length
    · obtain ⟨b, off, ha, hlt, hops⟩ : ∃ b off, a = some ⟨b, off, none⟩ ∧ b < w.heap.size ∧ OpsAt w b off l := by
        rcases HL.out with h | h
        · subst h; simp at hil
        · exact h
      subst ha
      have HO := hideIt hops
      obtain ⟨c0, c1, c2, c3, c4, c5, c6, c7⟩ := (hops i hil).below hlt HB.out
      have HX : Hid (opZ l i = l[i]) := opZ_at hil
      generalize l[i] = x at c0 c1 c2 c3 c4 c5 c6 c7 HX
      clear hops HL
      obtain ⟨v0, hv0⟩ := HMA.out.room i hil
      have hf0 := HMA.out.fz i
      have hBlt : Hid (w.heap.size < wr.heap.size) := HMA.out.lt
      have hv1 : ∀ o o' : Obj, ((wr.alloc o).alloc o').cell? ⟨w.heap.size, i, none⟩ = some v0 := fun o o' => by
        rw [World.cell?_alloc_lt _ _ ⟨w.heap.size, i, none⟩ (by have := hBlt.out; simp; omega), World.cell?_alloc_lt _ _ ⟨w.heap.size, i, none⟩ hBlt.out]; exact hv0
      have hf1 : ∀ o o' : Obj, ((wr.alloc o).alloc o').frozen? ⟨w.heap.size, i, none⟩ = false := fun o o' => by
        rw [(belA (belA (Below.refl wr.heap.size wr) o) o').frozen (p := ⟨w.heap.size, i, none⟩) hBlt.out]; exact hf0
      clear hv0 hf0
      have hmk2 := made_bits ((wr.alloc (.cells #[.int .i64 x.p, .int .i64 x.k, .int .i64 x.d, .int .i64 x.a, .int .i64 x.b, .int .i64 x.r, .int .i64 x.c, .int .i64 x.e] 48))) l.length (by omega)
      have HW : Hid (∀ W3, W3 = (((wr.alloc (.cells #[.int .i64 x.p, .int .i64 x.k, .int .i64 x.d, .int .i64 x.a, .int .i64 x.b, .int .i64 x.r, .int .i64 x.c, .int .i64 x.e] 48)).alloc (.cells (madeCells #[.bool false] l.length) 4)).setCell ⟨w.heap.size, i, none⟩ (.slice (some ⟨wr.heap.size + 1, 0, none⟩) l.length l.length)) →
          ∃ rb2 : Nat → Nat, MatAt W3 w.heap.size w.heap.size l.length (i + 1) rb2 (midM (roadB l) i 0) ∧ (∀ j, j < i + 1 → rb2 j ≠ wr.heap.size) ∧ OpAt W3 wr.heap.size 0 x ∧ Below w.heap.size w W3 ∧ wr.heap.size < W3.heap.size) := by
        rintro W3 rfl
        have hlt := hBlt.out
        generalize hbox : Obj.cells #[.int .i64 x.p, .int .i64 x.k, .int .i64 x.d, .int .i64 x.a, .int .i64 x.b, .int .i64 x.r, .int .i64 x.c, .int .i64 x.e] 48 = box
        have h1 : MatAt ((wr.alloc box).alloc (.cells (madeCells #[.bool false] l.length) 4)) w.heap.size w.heap.size l.length i rb (roadB l) := (HMA.out.alloc _).alloc _
        have h2 := bits_made (wr.alloc box) l.length
        have hs : (wr.alloc box).heap.size = wr.heap.size + 1 := by simp
        rw [hs] at h2
        have hnew : ∀ k, k < i → rb k < wr.heap.size := fun k hk => (HMA.out.row k hk).lt
        refine ⟨_, (h1.add hil h2 (by omega) (by omega) (fun k hk => by have := hnew k hk; omega)).same (fun a k ha _ => ?_), fun j hj => ?_, ?_, ?_, ?_⟩
        · unfold midM
          by_cases e : a = i
          · simp [e]
          · simp [e]
        · by_cases e : j = i
          · simp [e]
          · have := hnew j (by omega)
            simp [e]; omega
        · refine OpAt.other ?_ (p := ⟨w.heap.size, i, none⟩) (by simp; omega) _
          rw [← hbox]
          refine ⟨?_, ?_, ?_, ?_, ?_, ?_, ?_, ?_⟩ <;> simp
        · exact (belA (belA HB.out _) _).setCell (p := ⟨w.heap.size, i, none⟩) (Nat.le_refl _) _
        · simp; omega
      go_wp2
      obtain ⟨rb2, hmat3, hne3, hop3, hb3, hl3⟩ := HW.out _ rfl
      have HNE : Hid (∀ j, j < i + 1 → rb2 j ≠ wr.heap.size) := hne3
      clear HW hv1 hf1 hmk2 c0 c1 c2 c3 c4 c5 c6 c7 hne3 hBlt HMA HB
      generalize wr.heap.size = X at hmat3 hop3 hb3 hl3 HNE ⊢
      go_loopw [29] (fun q wz => ∃ j : Nat, j ≤ l.length ∧ q = .int .i64 j ∧ MatAt wz w.heap.size w.heap.size l.length (i + 1) rb2 (midM (roadB l) i j) ∧ OpAt wz X 0 x ∧ Below w.heap.size w wz ∧ X < wz.heap.size) (fun q _ => l.length - (intOf q).toNat)
      case atStart => exact ⟨0, Nat.zero_le _, rfl, hmat3, hop3, hb3, hl3⟩
      case round =>
        obtain ⟨j, hj, rfl, hmat, hop, hb, hXl⟩ := hrel
        have HMA := hideIt hmat
        have HB := hideIt hb
        have HXL := hideIt hXl
        have HOX := hideIt hop
        clear hmat hb hmat3 hop3 hb3 hl3
        by_cases hjl : j < l.length
        · obtain ⟨c0, c1, c2, c3, c4, c5, c6, c7⟩ := (HO.out j hjl).below hlt HB.out
          have HY : Hid (opZ l j = l[j]) := opZ_at hjl
          have HN := hideIt (ok.num j hjl)
          rw [HY.out] at HN
          generalize l[j] = y at c0 c1 c2 c3 c4 c5 c6 c7 HY HN
          have hXn : X ≠ wr.heap.size := by omega
          obtain ⟨d0, _, _, _, _, _, d6, _⟩ := hop
          have d0' : ∀ o : Obj, (wr.alloc o).cell? ⟨X, 0, none⟩ = some (.int .i64 x.p) := fun o => by rw [World.cell?_alloc_lt _ _ ⟨X, 0, none⟩ HXL.out]; exact d0
          have d6' : ∀ o : Obj, (wr.alloc o).cell? ⟨X, 6, none⟩ = some (.int .i64 x.c) := fun o => by rw [World.cell?_alloc_lt _ _ ⟨X, 6, none⟩ HXL.out]; exact d6
          clear d0 d6
          have HALL : Hid (∀ W0, W0 = wr.alloc (.cells #[.int .i64 y.p, .int .i64 y.k, .int .i64 y.d, .int .i64 y.a, .int .i64 y.b, .int .i64 y.r, .int .i64 y.c, .int .i64 y.e] 48) →
              MatAt W0 w.heap.size w.heap.size l.length (i + 1) rb2 (midM (roadB l) i j) ∧ OpAt W0 X 0 x ∧ OpAt W0 wr.heap.size 0 y ∧ wr.heap.size < W0.heap.size ∧ X < W0.heap.size ∧ Below w.heap.size w W0 ∧ rb2 i < wr.heap.size) := by
            rintro W0 rfl
            have hx := HXL.out
            refine ⟨HMA.out.alloc _, HOX.out.below HXL.out (belA (Below.refl _ _) _), ?_, by simp, by simp; omega, belA HB.out _, (HMA.out.row i (Nat.lt_succ_self i)).lt⟩
            refine ⟨?_, ?_, ?_, ?_, ?_, ?_, ?_, ?_⟩ <;> simp
          clear HMA HB HOX HXL
          have hcs : (x.p == y.p && decide (x.c < y.c)) = true ∨ (x.p == y.p && decide (x.c < y.c)) = false := by cases (x.p == y.p && decide (x.c < y.c)) <;> simp
          rcases hcs with hcs | hcs
          · obtain ⟨hp, hcc⟩ : (x.p == y.p) = true ∧ x.c < y.c := by simpa using hcs
            have R0 : Hid (roadB l i j = true) := by show roadB l i j = true; unfold roadB; rw [HX.out, HY.out, hcs]; rfl
            clear hcs
            go_wp2
            clear hp hcc d0' d6' c0 c1 c2 c3 c4 c5 c6 c7
            generalize hW0 : wr.alloc _ = W0
            obtain ⟨hm0, ho0, hy0, hYl, hXl0, hb0, hrY⟩ := HALL.out W0 hW0.symm
            generalize wr.heap.size = Y at hy0 hYl hrY ⊢
            obtain ⟨c0, c1, c2, c3, c4, c5, c6, c7⟩ := hy0
            have h1 := hm0.head i (by omega)
            have h2 := (hm0.row i (by omega)).bit j hjl
            have h3 := (hm0.row i (by omega)).fz j
            have hne1 : ¬ rb2 i = w.heap.size := (hm0.from_ i (by omega)).2
            have hne2 : ¬ w.heap.size = rb2 i := Ne.symm hne1
            clear hW0 HALL
            have HFin := hideIt (fin_mid hm0 ho0 (HNE.out i (by omega)) hXl0 hb0 (Nat.lt_succ_self i) hjl (Below.refl _ _))
            rw [R0.out] at HFin
            go_region
            go_wp2
            go_roundw
            case rel =>
              obtain ⟨f1, f2, f3, f4⟩ := HFin.out
              exact ⟨j + 1, by omega, by go_num, f1.drew, f2, f3.drew, f4⟩
            case measure => simp [intOf]; omega
          · have R0 : Hid (roadB l i j = (srcK l y == (i : Int))) := by show roadB l i j = _; unfold roadB; rw [HX.out, HY.out, hcs]; rfl
            have HF : Hid (∀ W, Below w.heap.size w W → Calls Tryd.prog 50 #[.map (some M), y.agg] W fun e w' => e = .returned (.int .i64 (srcK l y)) ∧ Below W.heap.size W w') := fun W hW =>
              source_any l y M W (HM.out.below hW hM) (wf_of (by have := HN.out; omega)) (wf_of (by have := HN.out; omega))
            have hcs' : ((x.p == y.p) = true ∧ ¬ x.c < y.c) ∨ (x.p == y.p) = false := by
              cases hp : (x.p == y.p)
              · exact .inr rfl
              · rw [hp] at hcs; exact .inl ⟨rfl, by simpa using hcs⟩
            clear hcs
            generalize srcK l y = s0 at HF R0
            unfold Opn.agg at HF
            rcases hcs' with ⟨hp, hcc⟩ | hp
            all_goals
              go_wp2
              clear hp d0' d6' c0 c1 c2 c3 c4 c5 c6 c7
              generalize hW0 : wr.alloc _ = W0
              obtain ⟨hm0, ho0, hy0, hYl, hXl0, hb0, hrY⟩ := HALL.out W0 hW0.symm
              generalize wr.heap.size = Y at hy0 hYl hrY ⊢
              have HK2 : Hid (∀ w2, Below W0.drew.heap.size W0.drew w2 → w2.cell? ⟨w.heap.size, i, none⟩ = some (.slice (some ⟨rb2 i, 0, none⟩) l.length l.length) ∧ OpAt w2 Y 0 y ∧ w2.cell? ⟨rb2 i, j, none⟩ = some (.bool (midM (roadB l) i j i j)) ∧ w2.frozen? ⟨rb2 i, j, none⟩ = false ∧
                  (MatAt (w2.setCell ⟨rb2 i, j, none⟩ (.bool (roadB l i j))) w.heap.size w.heap.size l.length (i + 1) rb2 (midM (roadB l) i (j + 1)) ∧ OpAt (w2.setCell ⟨rb2 i, j, none⟩ (.bool (roadB l i j))) X 0 x ∧ Below w.heap.size w (w2.setCell ⟨rb2 i, j, none⟩ (.bool (roadB l i j))) ∧ X < (w2.setCell ⟨rb2 i, j, none⟩ (.bool (roadB l i j))).heap.size)) := fun w2 h2 => by
                have h2' : Below W0.heap.size W0 w2 := ((Below.refl W0.heap.size W0).drew).trans h2
                exact ⟨(hm0.below h2').head i (by omega), hy0.below hYl h2', ((hm0.below h2').row i (by omega)).bit j hjl, ((hm0.below h2').row i (by omega)).fz j, fin_mid hm0 ho0 (HNE.out i (by omega)) hXl0 hb0 (Nat.lt_succ_self i) hjl h2'⟩
              rw [R0.out] at HK2
              obtain ⟨c0, c1, c2, c3, c4, c5, c6, c7⟩ := hy0
              have h1 := hm0.head i (by omega)
              have h2 := (hm0.row i (by omega)).bit j hjl
              have h3 := (hm0.row i (by omega)).fz j
              have hne1 : ¬ rb2 i = w.heap.size := (hm0.from_ i (by omega)).2
              have hne2 : ¬ w.heap.size = rb2 i := Ne.symm hne1
              have hne3 : ¬ rb2 i = Y := by omega
              have hne4 : ¬ Y = rb2 i := by omega
              have HW1 : Hid (Below w.heap.size w W0.drew) := hb0.drew
              clear hW0 HALL hm0 ho0 hYl hXl0 hb0 hrY
              go_region_held3 (fun w' => w'.cell? ⟨w.heap.size, i, none⟩ = some (.slice (some ⟨rb2 i, 0, none⟩) l.length l.length) ∧ w'.cell? ⟨Y, 0, none⟩ = some (.int .i64 y.p) ∧ w'.cell? ⟨Y, 0 + 1, none⟩ = some (.int .i64 y.k) ∧ w'.cell? ⟨Y, 0 + 2, none⟩ = some (.int .i64 y.d) ∧ w'.cell? ⟨Y, 0 + 3, none⟩ = some (.int .i64 y.a) ∧ w'.cell? ⟨Y, 0 + 4, none⟩ = some (.int .i64 y.b) ∧ w'.cell? ⟨Y, 0 + 5, none⟩ = some (.int .i64 y.r) ∧ w'.cell? ⟨Y, 0 + 6, none⟩ = some (.int .i64 y.c) ∧ w'.cell? ⟨Y, 0 + 7, none⟩ = some (.int .i64 y.e)) (go_keep)
                (first | (go_at_call 50; refine (HF.out _ HW1.out).mono ?_; rintro e w2 ⟨rfl, hb2⟩; obtain ⟨p0, ⟨q0, q1, q2, q3, q4, q5, q6, q7⟩, p8, p9, hfin⟩ := HK2.out w2 hb2; have HFin := hideIt hfin; clear hb2 hfin))
              all_goals
                go_wp2
                go_roundw
                case rel =>
                  obtain ⟨f1, f2, f3, f4⟩ := HFin.out
                  exact ⟨j + 1, by omega, by go_num, f1, f2, f3, f4⟩
                case measure => simp [intOf]; omega
        · obtain rfl : j = l.length := by omega
          have R1 := hideIt (HMA.out.same (M' := roadB l) fun a k _ hk => midM_end hk)
          go_wp2
          go_roundw
          case rel => exact ⟨i + 1, rb2, by omega, by go_num, R1.out, HB.out⟩
          case measure => simp [intOf]; omega
    · obtain rfl : i = l.length := by omega
      have HC : Hid (Calls Tryd.prog 51 #[.slice (some ⟨w.heap.size, 0, none⟩) l.length l.length] wr fun e w' => e = .returned (.tuple #[]) ∧ MatAt w' w.heap.size w.heap.size l.length l.length rb (war (roadB l) l.length) ∧ Below w.heap.size wr w') := lead_any w.heap.size w.heap.size l.length rb (roadB l) wr (by omega) HMA.out
      go_wp2_with fail
      refine HC.out.mono ?_
      rintro e w2 ⟨rfl, hm2, hb2⟩
      go_wp2
      go_ret
      exact ⟨_, rb, rfl, hm2, HB.out.trans hb2⟩
end Go.Proofs.YtfojmbbhcmeejaaDoor

namespace Go.Proofs.YtfojmbbhcmeejaaDoor
open Go.RowKit

/-- Two numbers, or -1 and -1. -/
def pairI (o : Option (Nat × Nat)) : Int × Int := (o.map fun p => ((p.1 : Int), (p.2 : Int))).getD (-1, -1)
def pairV (o : Option (Nat × Nat)) : Value := .tuple #[.int .i64 (pairI o).1, .int .i64 (pairI o).2]

set_option maxRecDepth 100000 in
set_option maxHeartbeats 4000000 in
theorem least53_any (l : List Opn) (H : Nat → Nat → Bool) (a : Option Addr) (cap B1 B2 : Nat) (w : World) (hlen : l.length ≤ 60) (hl : OpsQ w a l)
    (hc : ∀ W i k, Below w.heap.size w W → i < l.length → k < l.length → Calls Tryd.prog 53 #[.int .i64 (i : Nat), .int .i64 (k : Nat), .pointer (some ⟨B1, 0, none⟩), .pointer (some ⟨B2, 0, none⟩)] W fun e w' => e = .returned (.bool (H i k)) ∧ Below W.heap.size W w') :
    Calls Tryd.prog 52 #[.slice a l.length cap, .func (.func 53) #[] #[.pointer (some ⟨B1, 0, none⟩), .pointer (some ⟨B2, 0, none⟩)]] w fun e w' => e = .returned (pairV (firstP (fun i k => rwB l i k && H i k) l.length)) ∧ Below w.heap.size w w' := by
  have HL := hideIt hl
  have HC := hideIt hc
  clear hl hc
  go_enter Tryd.func52, Tryd.ntmps52
  go_wp2
  go_loopw [12] (fun i wr => ∃ r : Nat, r ≤ l.length ∧ i = .int .i64 r ∧ (∀ a, a < r → ∀ b, b < l.length → (rwB l a b && H a b) = false) ∧ Below w.heap.size w wr) (fun i _ => l.length - (intOf i).toNat)
  case atStart => exact ⟨0, Nat.zero_le _, rfl, fun j hj => absurd hj (by omega), Below.refl _ _⟩
  case round =>
    obtain ⟨r, hr, rfl, ha, hb⟩ := hrel
    have HA := hideIt ha
    have HB := hideIt hb
    clear ha hb
    by_cases hrl : r < l.length
    · obtain ⟨b, off, ha, hlt, hops⟩ : ∃ b off, a = some ⟨b, off, none⟩ ∧ b < w.heap.size ∧ OpsAt w b off l := by
        rcases HL.out with h | h
        · subst h; simp at hrl
        · exact h
      subst ha
      have HO := hideIt hops
      obtain ⟨c0, c1, c2, c3, c4, c5, c6, c7⟩ := (hops r hrl).below hlt HB.out
      have HX : Hid (opZ l r = l[r]) := opZ_at hrl
      generalize l[r] = x at c0 c1 c2 c3 c4 c5 c6 c7 HX
      clear hops HL
      by_cases hd : x.d = 1
      · have hd' : (x.d != 1) = false := by simp [hd]
        have HD := hideIt hd
        clear hd
        have HBox : Hid (OpAt (wr.alloc (.cells #[.int .i64 x.p, .int .i64 x.k, .int .i64 x.d, .int .i64 x.a, .int .i64 x.b, .int .i64 x.r, .int .i64 x.c, .int .i64 x.e] 48)) wr.heap.size 0 x ∧ wr.heap.size < (wr.alloc (.cells #[.int .i64 x.p, .int .i64 x.k, .int .i64 x.d, .int .i64 x.a, .int .i64 x.b, .int .i64 x.r, .int .i64 x.c, .int .i64 x.e] 48)).heap.size) := by
          refine ⟨⟨?_, ?_, ?_, ?_, ?_, ?_, ?_, ?_⟩, ?_⟩ <;> simp
        have HB1 : Hid (Below w.heap.size w (wr.alloc (.cells #[.int .i64 x.p, .int .i64 x.k, .int .i64 x.d, .int .i64 x.a, .int .i64 x.b, .int .i64 x.r, .int .i64 x.c, .int .i64 x.e] 48))) := belA HB.out _
        go_wp2
        clear c0 c1 c2 c3 c4 c5 c6 c7 hd'
        generalize hW : wr.alloc _ = W1
        rw [hW] at HBox HB1
        generalize wr.heap.size = X at HBox ⊢
        clear hW
        go_loopw [22] (fun q wz => ∃ k : Nat, k ≤ l.length ∧ q = .int .i64 k ∧ (∀ b, b < k → (rwB l r b && H r b) = false) ∧ OpAt wz X 0 x ∧ X < wz.heap.size ∧ Below w.heap.size w wz) (fun q _ => l.length - (intOf q).toNat)
        case atStart => exact ⟨0, Nat.zero_le _, rfl, fun j hj => absurd hj (by omega), HBox.out.1, HBox.out.2, HB1.out⟩
        case round =>
          obtain ⟨k, hk, rfl, ha2, hox, hxl, hb2⟩ := hrel
          have HA2 := hideIt ha2
          have HB2 := hideIt hb2
          have HOX := hideIt hox
          have HXL := hideIt hxl
          clear ha2 hb2 HB HB1 HBox
          by_cases hkl : k < l.length
          · obtain ⟨c0, c1, c2, c3, c4, c5, c6, c7⟩ := (HO.out k hkl).below hlt HB2.out
            have HY : Hid (opZ l k = l[k]) := opZ_at hkl
            generalize l[k] = y at c0 c1 c2 c3 c4 c5 c6 c7 HY
            have hXn : X ≠ wr.heap.size := by omega
            obtain ⟨_, d1, _⟩ := hox
            have d1' : ∀ o : Obj, (wr.alloc o).cell? ⟨X, 0 + 1, none⟩ = some (.int .i64 x.k) := fun o => by rw [World.cell?_alloc_lt _ _ ⟨X, 0 + 1, none⟩ HXL.out]; exact d1
            have hrw : rwB l r k = (y.d == 2 && y.k == x.k) := by unfold rwB; rw [HX.out, HY.out, HD.out]; rfl
            have HKeep : Hid (∀ o w2, Below (wr.alloc o).heap.size (wr.alloc o) w2 → OpAt w2 X 0 x ∧ X < w2.heap.size ∧ Below w.heap.size w w2) := fun o w2 h2 => by
              have h3 : Below wr.heap.size wr w2 := belJ (belA (Below.refl _ _) o) h2
              exact ⟨HOX.out.below HXL.out h3, Nat.lt_of_lt_of_le HXL.out h3.size, belJ HB2.out h3⟩
            by_cases hyd : y.d = 2
            · by_cases hyk : y.k = x.k
              · have hyd' : (y.d == 2) = true := by simp [hyd]
                have hyk' : (y.k == x.k) = true := by simp [hyk]
                rw [hyd', hyk'] at hrw
                have HRW := hideIt hrw
                clear hrw hyd hyk
                have HF : Hid (∀ W, Below w.heap.size w W → Calls Tryd.prog 53 #[.int .i64 (r : Nat), .int .i64 (k : Nat), .pointer (some ⟨B1, 0, none⟩), .pointer (some ⟨B2, 0, none⟩)] W fun e w' => e = .returned (.bool (H r k)) ∧ Below W.heap.size W w') := fun W hW => HC.out W r k hW hrl hkl
                cases hh : H r k
                · rw [hh] at HF
                  have R1 : Hid (∀ b, b < k + 1 → (rwB l r b && H r b) = false) := fun b hb => by
                    by_cases e : b = k
                    · subst e; rw [hh]; simp
                    · exact HA2.out b (by omega)
                  clear hh
                  go_wp2_with (go_at_call 53; refine (HF.out _ (belA HB2.out _)).mono ?_; rintro e w2 ⟨rfl, hb3⟩)
                  go_roundw
                  case rel => exact ⟨k + 1, by omega, by go_num, R1.out, (HKeep.out _ _ hb3).1, (HKeep.out _ _ hb3).2.1, (HKeep.out _ _ hb3).2.2⟩
                  case measure => simp [intOf]; omega
                · rw [hh] at HF
                  have R1 : Hid (firstP (fun i k => rwB l i k && H i k) l.length = some (r, k)) := firstP_at hrl hkl HA.out HA2.out (by show (rwB l r k && H r k) = true; rw [HRW.out, hh]; rfl)
                  clear hh
                  go_wp2_with (go_at_call 53; refine (HF.out _ (belA HB2.out _)).mono ?_; rintro e w2 ⟨rfl, hb3⟩)
                  go_ret2
                  exact ⟨by rw [R1.out]; rfl, (HKeep.out _ _ hb3).2.2⟩
              · have hyd' : (y.d == 2) = true := by simp [hyd]
                have hyk' : (y.k == x.k) = false := by simp [hyk]
                rw [hyd', hyk'] at hrw
                have R1 : Hid (∀ b, b < k + 1 → (rwB l r b && H r b) = false) := fun b hb => by
                  by_cases e : b = k
                  · subst e; rw [hrw]; rfl
                  · exact HA2.out b (by omega)
                clear hrw hyd hyk
                go_wp2
                go_roundw
                case rel => exact ⟨k + 1, by omega, by go_num, R1.out, (HKeep.out _ _ (Below.refl _ _)).1, (HKeep.out _ _ (Below.refl _ _)).2.1, (HKeep.out _ _ (Below.refl _ _)).2.2⟩
                case measure => simp [intOf]; omega
            · have hyd' : (y.d == 2) = false := by simp [hyd]
              rw [hyd'] at hrw
              have R1 : Hid (∀ b, b < k + 1 → (rwB l r b && H r b) = false) := fun b hb => by
                by_cases e : b = k
                · subst e; rw [hrw]; rfl
                · exact HA2.out b (by omega)
              clear hrw hyd
              go_wp2
              go_roundw
              case rel => exact ⟨k + 1, by omega, by go_num, R1.out, (HKeep.out _ _ (Below.refl _ _)).1, (HKeep.out _ _ (Below.refl _ _)).2.1, (HKeep.out _ _ (Below.refl _ _)).2.2⟩
              case measure => simp [intOf]; omega
          · have R1 : Hid (∀ a, a < r + 1 → ∀ b, b < l.length → (rwB l a b && H a b) = false) := fun a ha b hb => by
              by_cases e : a = r
              · subst e; exact HA2.out b (by omega)
              · exact HA.out a (by omega) b hb
            go_wp2
            go_roundw
            case rel => exact ⟨r + 1, by omega, by go_num, R1.out, HB2.out⟩
            case measure => simp [intOf]; omega
      · have hd' : (x.d != 1) = true := by simp [hd]
        have R1 : Hid (∀ a, a < r + 1 → ∀ b, b < l.length → (rwB l a b && H a b) = false) := fun a ha b hb => by
          by_cases e : a = r
          · subst e
            have : ((opZ l a).d == 1) = false := by rw [HX.out]; simp [hd]
            unfold rwB; rw [this]; rfl
          · exact HA.out a (by omega) b hb
        clear hd
        go_wp2
        go_roundw
        case rel => exact ⟨r + 1, by omega, by go_num, R1.out, belA HB.out _⟩
        case measure => simp [intOf]; omega
    · have R1 : Hid (firstP (fun i k => rwB l i k && H i k) l.length = none) := firstP_none fun i hi k hk => HA.out i (by omega) k hk
      go_wp2
      go_ret2
      exact ⟨by rw [R1.out]; rfl, HB.out⟩

set_option maxRecDepth 100000 in
set_option maxHeartbeats 4000000 in
theorem least54_any (l : List Opn) (H : Nat → Nat → Bool) (a : Option Addr) (cap B1 B2 B3 : Nat) (w : World) (hlen : l.length ≤ 60) (hl : OpsQ w a l)
    (hc : ∀ W i k, Below w.heap.size w W → i < l.length → k < l.length → Calls Tryd.prog 54 #[.int .i64 (i : Nat), .int .i64 (k : Nat), .pointer (some ⟨B1, 0, none⟩), .pointer (some ⟨B2, 0, none⟩), .pointer (some ⟨B3, 0, none⟩)] W fun e w' => e = .returned (.bool (H i k)) ∧ Below W.heap.size W w') :
    Calls Tryd.prog 52 #[.slice a l.length cap, .func (.func 54) #[] #[.pointer (some ⟨B1, 0, none⟩), .pointer (some ⟨B2, 0, none⟩), .pointer (some ⟨B3, 0, none⟩)]] w fun e w' => e = .returned (pairV (firstP (fun i k => rwB l i k && H i k) l.length)) ∧ Below w.heap.size w w' := by
  have HL := hideIt hl
  have HC := hideIt hc
  clear hl hc
  go_enter Tryd.func52, Tryd.ntmps52
  go_wp2
  go_loopw [12] (fun i wr => ∃ r : Nat, r ≤ l.length ∧ i = .int .i64 r ∧ (∀ a, a < r → ∀ b, b < l.length → (rwB l a b && H a b) = false) ∧ Below w.heap.size w wr) (fun i _ => l.length - (intOf i).toNat)
  case atStart => exact ⟨0, Nat.zero_le _, rfl, fun j hj => absurd hj (by omega), Below.refl _ _⟩
  case round =>
    obtain ⟨r, hr, rfl, ha, hb⟩ := hrel
    have HA := hideIt ha
    have HB := hideIt hb
    clear ha hb
    by_cases hrl : r < l.length
    · obtain ⟨b, off, ha, hlt, hops⟩ : ∃ b off, a = some ⟨b, off, none⟩ ∧ b < w.heap.size ∧ OpsAt w b off l := by
        rcases HL.out with h | h
        · subst h; simp at hrl
        · exact h
      subst ha
      have HO := hideIt hops
      obtain ⟨c0, c1, c2, c3, c4, c5, c6, c7⟩ := (hops r hrl).below hlt HB.out
      have HX : Hid (opZ l r = l[r]) := opZ_at hrl
      generalize l[r] = x at c0 c1 c2 c3 c4 c5 c6 c7 HX
      clear hops HL
      by_cases hd : x.d = 1
      · have hd' : (x.d != 1) = false := by simp [hd]
        have HD := hideIt hd
        clear hd
        have HBox : Hid (OpAt (wr.alloc (.cells #[.int .i64 x.p, .int .i64 x.k, .int .i64 x.d, .int .i64 x.a, .int .i64 x.b, .int .i64 x.r, .int .i64 x.c, .int .i64 x.e] 48)) wr.heap.size 0 x ∧ wr.heap.size < (wr.alloc (.cells #[.int .i64 x.p, .int .i64 x.k, .int .i64 x.d, .int .i64 x.a, .int .i64 x.b, .int .i64 x.r, .int .i64 x.c, .int .i64 x.e] 48)).heap.size) := by
          refine ⟨⟨?_, ?_, ?_, ?_, ?_, ?_, ?_, ?_⟩, ?_⟩ <;> simp
        have HB1 : Hid (Below w.heap.size w (wr.alloc (.cells #[.int .i64 x.p, .int .i64 x.k, .int .i64 x.d, .int .i64 x.a, .int .i64 x.b, .int .i64 x.r, .int .i64 x.c, .int .i64 x.e] 48))) := belA HB.out _
        go_wp2
        clear c0 c1 c2 c3 c4 c5 c6 c7 hd'
        generalize hW : wr.alloc _ = W1
        rw [hW] at HBox HB1
        generalize wr.heap.size = X at HBox ⊢
        clear hW
        go_loopw [22] (fun q wz => ∃ k : Nat, k ≤ l.length ∧ q = .int .i64 k ∧ (∀ b, b < k → (rwB l r b && H r b) = false) ∧ OpAt wz X 0 x ∧ X < wz.heap.size ∧ Below w.heap.size w wz) (fun q _ => l.length - (intOf q).toNat)
        case atStart => exact ⟨0, Nat.zero_le _, rfl, fun j hj => absurd hj (by omega), HBox.out.1, HBox.out.2, HB1.out⟩
        case round =>
          obtain ⟨k, hk, rfl, ha2, hox, hxl, hb2⟩ := hrel
          have HA2 := hideIt ha2
          have HB2 := hideIt hb2
          have HOX := hideIt hox
          have HXL := hideIt hxl
          clear ha2 hb2 HB HB1 HBox
          by_cases hkl : k < l.length
          · obtain ⟨c0, c1, c2, c3, c4, c5, c6, c7⟩ := (HO.out k hkl).below hlt HB2.out
            have HY : Hid (opZ l k = l[k]) := opZ_at hkl
            generalize l[k] = y at c0 c1 c2 c3 c4 c5 c6 c7 HY
            have hXn : X ≠ wr.heap.size := by omega
            obtain ⟨_, d1, _⟩ := hox
            have d1' : ∀ o : Obj, (wr.alloc o).cell? ⟨X, 0 + 1, none⟩ = some (.int .i64 x.k) := fun o => by rw [World.cell?_alloc_lt _ _ ⟨X, 0 + 1, none⟩ HXL.out]; exact d1
            have hrw : rwB l r k = (y.d == 2 && y.k == x.k) := by unfold rwB; rw [HX.out, HY.out, HD.out]; rfl
            have HKeep : Hid (∀ o w2, Below (wr.alloc o).heap.size (wr.alloc o) w2 → OpAt w2 X 0 x ∧ X < w2.heap.size ∧ Below w.heap.size w w2) := fun o w2 h2 => by
              have h3 : Below wr.heap.size wr w2 := belJ (belA (Below.refl _ _) o) h2
              exact ⟨HOX.out.below HXL.out h3, Nat.lt_of_lt_of_le HXL.out h3.size, belJ HB2.out h3⟩
            by_cases hyd : y.d = 2
            · by_cases hyk : y.k = x.k
              · have hyd' : (y.d == 2) = true := by simp [hyd]
                have hyk' : (y.k == x.k) = true := by simp [hyk]
                rw [hyd', hyk'] at hrw
                have HRW := hideIt hrw
                clear hrw hyd hyk
                have HF : Hid (∀ W, Below w.heap.size w W → Calls Tryd.prog 54 #[.int .i64 (r : Nat), .int .i64 (k : Nat), .pointer (some ⟨B1, 0, none⟩), .pointer (some ⟨B2, 0, none⟩), .pointer (some ⟨B3, 0, none⟩)] W fun e w' => e = .returned (.bool (H r k)) ∧ Below W.heap.size W w') := fun W hW => HC.out W r k hW hrl hkl
                cases hh : H r k
                · rw [hh] at HF
                  have R1 : Hid (∀ b, b < k + 1 → (rwB l r b && H r b) = false) := fun b hb => by
                    by_cases e : b = k
                    · subst e; rw [hh]; simp
                    · exact HA2.out b (by omega)
                  clear hh
                  go_wp2_with (go_at_call 54; refine (HF.out _ (belA HB2.out _)).mono ?_; rintro e w2 ⟨rfl, hb3⟩)
                  go_roundw
                  case rel => exact ⟨k + 1, by omega, by go_num, R1.out, (HKeep.out _ _ hb3).1, (HKeep.out _ _ hb3).2.1, (HKeep.out _ _ hb3).2.2⟩
                  case measure => simp [intOf]; omega
                · rw [hh] at HF
                  have R1 : Hid (firstP (fun i k => rwB l i k && H i k) l.length = some (r, k)) := firstP_at hrl hkl HA.out HA2.out (by show (rwB l r k && H r k) = true; rw [HRW.out, hh]; rfl)
                  clear hh
                  go_wp2_with (go_at_call 54; refine (HF.out _ (belA HB2.out _)).mono ?_; rintro e w2 ⟨rfl, hb3⟩)
                  go_ret2
                  exact ⟨by rw [R1.out]; rfl, (HKeep.out _ _ hb3).2.2⟩
              · have hyd' : (y.d == 2) = true := by simp [hyd]
                have hyk' : (y.k == x.k) = false := by simp [hyk]
                rw [hyd', hyk'] at hrw
                have R1 : Hid (∀ b, b < k + 1 → (rwB l r b && H r b) = false) := fun b hb => by
                  by_cases e : b = k
                  · subst e; rw [hrw]; rfl
                  · exact HA2.out b (by omega)
                clear hrw hyd hyk
                go_wp2
                go_roundw
                case rel => exact ⟨k + 1, by omega, by go_num, R1.out, (HKeep.out _ _ (Below.refl _ _)).1, (HKeep.out _ _ (Below.refl _ _)).2.1, (HKeep.out _ _ (Below.refl _ _)).2.2⟩
                case measure => simp [intOf]; omega
            · have hyd' : (y.d == 2) = false := by simp [hyd]
              rw [hyd'] at hrw
              have R1 : Hid (∀ b, b < k + 1 → (rwB l r b && H r b) = false) := fun b hb => by
                by_cases e : b = k
                · subst e; rw [hrw]; rfl
                · exact HA2.out b (by omega)
              clear hrw hyd
              go_wp2
              go_roundw
              case rel => exact ⟨k + 1, by omega, by go_num, R1.out, (HKeep.out _ _ (Below.refl _ _)).1, (HKeep.out _ _ (Below.refl _ _)).2.1, (HKeep.out _ _ (Below.refl _ _)).2.2⟩
              case measure => simp [intOf]; omega
          · have R1 : Hid (∀ a, a < r + 1 → ∀ b, b < l.length → (rwB l a b && H a b) = false) := fun a ha b hb => by
              by_cases e : a = r
              · subst e; exact HA2.out b (by omega)
              · exact HA.out a (by omega) b hb
            go_wp2
            go_roundw
            case rel => exact ⟨r + 1, by omega, by go_num, R1.out, HB2.out⟩
            case measure => simp [intOf]; omega
      · have hd' : (x.d != 1) = true := by simp [hd]
        have R1 : Hid (∀ a, a < r + 1 → ∀ b, b < l.length → (rwB l a b && H a b) = false) := fun a ha b hb => by
          by_cases e : a = r
          · subst e
            have : ((opZ l a).d == 1) = false := by rw [HX.out]; simp [hd]
            unfold rwB; rw [this]; rfl
          · exact HA.out a (by omega) b hb
        clear hd
        go_wp2
        go_roundw
        case rel => exact ⟨r + 1, by omega, by go_num, R1.out, belA HB.out _⟩
        case measure => simp [intOf]; omega
    · have R1 : Hid (firstP (fun i k => rwB l i k && H i k) l.length = none) := firstP_none fun i hi k hk => HA.out i (by omega) k hk
      go_wp2
      go_ret2
      exact ⟨by rw [R1.out]; rfl, HB.out⟩

end Go.Proofs.YtfojmbbhcmeejaaDoor

namespace Go.Proofs.YtfojmbbhcmeejaaDoor
open Go.RowKit

set_option maxHeartbeats 1000000 in
theorem round_any (base B n : Nat) (rb : Nat → Nat) (M : Nat → Nat → Bool) (w : World) (hn : n ≤ 60) (h : MatAt w base B n n rb M) :
    Calls Tryd.prog 32 #[.slice (some ⟨B, 0, none⟩) n n] w fun e w' => e = .returned (.int .i64 (orNone (firstN (fun i => M i i) n))) ∧ w' = w := by
  have H := hideIt h
  clear h
  go_enter Tryd.func32, Tryd.ntmps32
  go_wp2
  go_loopw [7] (fun i wr => ∃ k : Nat, k ≤ n ∧ i = .int .i64 k ∧ (∀ j, j < k → M j j = false) ∧ wr = w) (fun i _ => n - (intOf i).toNat)
  case atStart => exact ⟨0, Nat.zero_le _, rfl, fun j hj => absurd hj (by omega), rfl⟩
  case round =>
    obtain ⟨k, hk, rfl, ha, rfl⟩ := hrel
    have HA := hideIt ha
    clear ha
    by_cases hkl : k < n
    · have c1 := H.out.head k hkl
      have c2 := (H.out.row k hkl).bit k hkl
      cases hx : M k k
      · rw [hx] at c2
        have R1 : Hid (∀ j, j < k + 1 → M j j = false) := fun j hj => by
          by_cases e : j = k
          · subst e; exact hx
          · exact HA.out j (by omega)
        clear hx
        go_wp2
        go_roundw
        case rel => exact ⟨k + 1, by omega, by go_num, R1.out, by simp⟩
        case measure => simp [intOf]; omega
      · rw [hx] at c2
        have R1 : Hid (firstN (fun i => M i i) n = some k) := firstN_at hkl HA.out hx
        clear hx
        go_wp2
        go_ret
        exact ⟨ret_intK (by rw [R1.out]; rfl), rfl⟩
    · have R1 : Hid (firstN (fun i => M i i) n = none) := firstN_none fun j hj => HA.out j (by omega)
      go_wp2
      go_ret
      exact ⟨ret_intK (by rw [R1.out]; rfl), rfl⟩

def emp1 (l : List Opn) (M : Nat → Nat → Bool) (i k : Nat) : Bool := (opZ l i).r == 0 && M k i
def sta1 (l : List Opn) (M : Nat → Nat → Bool) (i k : Nat) : Bool := srcK l (opZ l i) != -1 && (M (srcK l (opZ l i)).toNat k && M k i)

set_option maxHeartbeats 1000000 in
theorem empty1_any (l : List Opn) (a : Option Addr) (cap B1 B2 base B : Nat) (rb : Nat → Nat) (M : Nat → Nat → Bool) (w : World) (hlen : l.length ≤ 60) (hl : OpsQ w a l) (h : MatAt w base B l.length l.length rb M)
    (b1 : w.cell? ⟨B1, 0, none⟩ = some (.slice a l.length cap)) (b2 : w.cell? ⟨B2, 0, none⟩ = some (.slice (some ⟨B, 0, none⟩) l.length l.length)) (i k : Nat) (hi : i < l.length) (hk : k < l.length) :
    Calls Tryd.prog 53 #[.int .i64 (i : Nat), .int .i64 (k : Nat), .pointer (some ⟨B1, 0, none⟩), .pointer (some ⟨B2, 0, none⟩)] w fun e w' => e = .returned (.bool (emp1 l M i k)) ∧ Below w.heap.size w w' := by
  obtain ⟨b, off, rfl, hlt, hops⟩ : ∃ b off, a = some ⟨b, off, none⟩ ∧ b < w.heap.size ∧ OpsAt w b off l := by
    rcases hl with h | h
    · subst h; simp at hi
    · exact h
  obtain ⟨c0, c1, c2, c3, c4, c5, c6, c7⟩ := hops i hi
  have HX : Hid (opZ l i = l[i]) := opZ_at hi
  generalize l[i] = x at c0 c1 c2 c3 c4 c5 c6 c7 HX
  have d1 := h.head k hk
  have d2 := (h.row k hk).bit i hi
  clear h hops
  by_cases hr : x.r = 0
  · have hr' : (x.r == 0) = true := by simp [hr]
    have R : Hid (emp1 l M i k = M k i) := by show emp1 l M i k = M k i; unfold emp1; rw [HX.out, hr']; rfl
    clear hr
    go_enter Tryd.func53, Tryd.ntmps53
    go_wp2
    go_ret
    exact ⟨ret_boolZ R.out.symm, Below.refl _ _⟩
  · have hr' : (x.r == 0) = false := by simp [hr]
    have R : Hid (emp1 l M i k = false) := by show emp1 l M i k = false; unfold emp1; rw [HX.out, hr']; rfl
    clear hr
    go_enter Tryd.func53, Tryd.ntmps53
    go_wp2
    go_ret
    exact ⟨ret_boolZ R.out.symm, Below.refl _ _⟩

set_option maxHeartbeats 1000000 in
theorem empty_any (l : List Opn) (a : Option Addr) (cap base B : Nat) (rb : Nat → Nat) (M : Nat → Nat → Bool) (w : World) (hlen : l.length ≤ 60) (hl : OpsQ w a l) (h : MatAt w base B l.length l.length rb M) :
    Calls Tryd.prog 33 #[.slice a l.length cap, .slice (some ⟨B, 0, none⟩) l.length l.length] w fun e w' => e = .returned (pairV (firstP (empB l M) l.length)) ∧ Below w.heap.size w w' := by
  have HC : Hid (∀ W, W = (w.alloc (.cells #[.slice a l.length cap] 22)).alloc (.cells #[.slice (some ⟨B, 0, none⟩) l.length l.length] 30) →
      Calls Tryd.prog 52 #[.slice a l.length cap, .func (.func 53) #[] #[.pointer (some ⟨w.heap.size, 0, none⟩), .pointer (some ⟨w.heap.size + 1, 0, none⟩)]] W fun e w' => e = .returned (pairV (firstP (fun i k => rwB l i k && emp1 l M i k) l.length)) ∧ Below w.heap.size w w') := by
    rintro W rfl
    have hb : Below w.heap.size w ((w.alloc (.cells #[.slice a l.length cap] 22)).alloc (.cells #[.slice (some ⟨B, 0, none⟩) l.length l.length] 30)) := belA (belA (Below.refl _ _) _) _
    refine (least53_any l (emp1 l M) a cap _ _ _ hlen (hl.below hb) fun W' i k hW hi hk => ?_).mono fun e w' ⟨he, hw⟩ => ⟨he, belJ hb hw⟩
    have hb2 : Below w.heap.size w W' := belJ hb hW
    refine empty1_any l a cap _ _ base B rb M W' hlen (hl.below hb2) (h.below hb2) ?_ ?_ i k hi hk
    · rw [hW.cell (p := ⟨w.heap.size, 0, none⟩) (by simp; omega)]; simp
    · rw [hW.cell (p := ⟨w.heap.size + 1, 0, none⟩) (by simp)]; simp
  clear hl h
  go_enter Tryd.func33, Tryd.ntmps33
  go_wp2_with (go_at_call 52; refine (HC.out _ rfl).mono ?_; rintro e w2 ⟨rfl, hb2⟩; unfold pairV)
  go_ret2
  exact ⟨rfl, hb2⟩

set_option maxRecDepth 100000 in
set_option maxHeartbeats 2000000 in
theorem stale1_any (l : List Opn) (ok : KOk l) (a : Option Addr) (cap B1 B2 B3 base B Mp : Nat) (rb : Nat → Nat) (M : Nat → Nat → Bool) (w : World) (hl : OpsQ w a l) (h : MatAt w base B l.length l.length rb M) (hm : MapSp w Mp l.length (wrK l l.length))
    (b1 : w.cell? ⟨B1, 0, none⟩ = some (.map (some Mp))) (b2 : w.cell? ⟨B2, 0, none⟩ = some (.slice a l.length cap)) (b3 : w.cell? ⟨B3, 0, none⟩ = some (.slice (some ⟨B, 0, none⟩) l.length l.length)) (i k : Nat) (hi : i < l.length) (hk : k < l.length) :
    Calls Tryd.prog 54 #[.int .i64 (i : Nat), .int .i64 (k : Nat), .pointer (some ⟨B1, 0, none⟩), .pointer (some ⟨B2, 0, none⟩), .pointer (some ⟨B3, 0, none⟩)] w fun e w' => e = .returned (.bool (sta1 l M i k)) ∧ Below w.heap.size w w' := by
  have hlen := ok.few
  obtain ⟨b, off, rfl, hlt, hops⟩ : ∃ b off, a = some ⟨b, off, none⟩ ∧ b < w.heap.size ∧ OpsAt w b off l := by
    rcases hl with h | h
    · subst h; simp at hi
    · exact h
  have hxx := hops i hi
  have HX : Hid (opZ l i = l[i]) := opZ_at hi
  have HN := hideIt (ok.num i hi)
  rw [HX.out] at HN
  generalize l[i] = x at hxx HX HN
  have HF : Hid (Calls Tryd.prog 50 #[.map (some Mp), x.agg] w.drew fun e w' => e = .returned (.int .i64 (srcK l x)) ∧ Below w.drew.heap.size w.drew w') :=
    source_any l x Mp w.drew hm.drew (wf_of (by have := HN.out; omega)) (wf_of (by have := HN.out; omega))
  have hB3 : B3 < w.heap.size := World.block_lt_of_cell? w _ b3
  have hB2 : B2 < w.heap.size := World.block_lt_of_cell? w _ b2
  have hB1 : B1 < w.heap.size := World.block_lt_of_cell? w _ b1
  have HK : Hid (∀ w2, Below w.drew.heap.size w.drew w2 → w2.cell? ⟨B1, 0, none⟩ = some (.map (some Mp)) ∧ w2.cell? ⟨B2, 0, none⟩ = some (.slice (some ⟨b, off, none⟩) l.length cap) ∧ OpAt w2 b (off + i * 8) x ∧ w2.cell? ⟨B3, 0, none⟩ = some (.slice (some ⟨B, 0, none⟩) l.length l.length) ∧ MatAt w2 base B l.length l.length rb M ∧ Below w.heap.size w w2) := fun w2 h2 => by
    have h3 : Below w.heap.size w w2 := ((Below.refl w.heap.size w).drew).trans h2
    exact ⟨(h3.cell (p := ⟨B1, 0, none⟩) hB1).trans b1, (h3.cell (p := ⟨B2, 0, none⟩) hB2).trans b2, hxx.below hlt h3, (h3.cell (p := ⟨B3, 0, none⟩) hB3).trans b3, h.below h3, h3⟩
  have R : Hid (sta1 l M i k = (srcK l x != -1 && (M (srcK l x).toNat k && M k i))) := by show sta1 l M i k = _; unfold sta1; rw [HX.out]
  have hsr := srcK_ge l x
  obtain ⟨c0, c1, c2, c3, c4, c5, c6, c7⟩ := hxx
  clear h hops hm HN HX hB1 hB2 hB3
  unfold Opn.agg at HF
  generalize srcK l x = s0 at HF R hsr
  go_enter Tryd.func54, Tryd.ntmps54
  go_wp2_with fail
  go_region_held3 (fun w' => w'.cell? ⟨B1, 0, none⟩ = some (.map (some Mp)) ∧ w'.cell? ⟨B2, 0, none⟩ = some (.slice (some ⟨b, off, none⟩) l.length cap) ∧ w'.cell? ⟨b, off + i * 8, none⟩ = some (.int .i64 x.p) ∧ w'.cell? ⟨b, off + i * 8 + 1, none⟩ = some (.int .i64 x.k) ∧ w'.cell? ⟨b, off + i * 8 + 2, none⟩ = some (.int .i64 x.d) ∧ w'.cell? ⟨b, off + i * 8 + 3, none⟩ = some (.int .i64 x.a) ∧ w'.cell? ⟨b, off + i * 8 + 4, none⟩ = some (.int .i64 x.b) ∧ w'.cell? ⟨b, off + i * 8 + 5, none⟩ = some (.int .i64 x.r) ∧ w'.cell? ⟨b, off + i * 8 + 6, none⟩ = some (.int .i64 x.c) ∧ w'.cell? ⟨b, off + i * 8 + 7, none⟩ = some (.int .i64 x.e)) (go_keep)
    (first | (go_at_call 50; refine HF.out.mono ?_; rintro e w2 ⟨rfl, hb2⟩; obtain ⟨p1, p2, ⟨q0, q1, q2, q3, q4, q5, q6, q7⟩, p3, hmat, hbel⟩ := HK.out w2 hb2; have HMat := hideIt hmat; have HBel := hideIt hbel; clear hb2 hmat hbel))
  all_goals
    clear c0 c1 c2 c3 c4 c5 c6 c7 b1 b2 b3 p1 p2 q0 q1 q2 q3 q4 q5 q6 q7
    by_cases hs : s0 = -1
    · subst hs
      have R1 : Hid (sta1 l M i k = false) := by show sta1 l M i k = false; rw [R.out]; rfl
      go_wp2
      go_ret
      exact ⟨ret_boolZ R1.out.symm, HBel.out⟩
    · have hs' : (s0 != -1) = true := by simp [hs]
      obtain ⟨m, rfl⟩ : ∃ m : Nat, s0 = m := ⟨s0.toNat, by omega⟩
      have hml : m < l.length := by omega
      rw [hs', Int.toNat_natCast] at R
      have d1 := HMat.out.head m hml
      have d2 := (HMat.out.row m hml).bit k hk
      have e1 := HMat.out.head k hk
      have e2 := (HMat.out.row k hk).bit i hi
      clear hs hsr
      cases hx : M m k
      · rw [hx] at d2 R
        have R1 : Hid (sta1 l M i k = false) := by show sta1 l M i k = false; rw [R.out]; rfl
        clear hx
        go_wp2
        go_ret
        exact ⟨ret_boolZ R1.out.symm, HBel.out⟩
      · rw [hx] at d2 R
        have R1 : Hid (sta1 l M i k = M k i) := by show sta1 l M i k = M k i; rw [R.out]; rfl
        clear hx
        go_wp2
        go_ret
        exact ⟨ret_boolZ R1.out.symm, HBel.out⟩

set_option maxHeartbeats 1000000 in
theorem stale_any (l : List Opn) (ok : KOk l) (a : Option Addr) (cap base B Mp : Nat) (rb : Nat → Nat) (M : Nat → Nat → Bool) (w : World) (hl : OpsQ w a l) (h : MatAt w base B l.length l.length rb M) (hm : MapSp w Mp l.length (wrK l l.length)) (hMp : Mp < w.heap.size) :
    Calls Tryd.prog 34 #[.map (some Mp), .slice a l.length cap, .slice (some ⟨B, 0, none⟩) l.length l.length] w fun e w' => e = .returned (pairV (firstP (staB l M) l.length)) ∧ Below w.heap.size w w' := by
  have hlen := ok.few
  have HC : Hid (∀ W, W = ((w.alloc (.cells #[.map (some Mp)] 63)).alloc (.cells #[.slice a l.length cap] 22)).alloc (.cells #[.slice (some ⟨B, 0, none⟩) l.length l.length] 30) →
      Calls Tryd.prog 52 #[.slice a l.length cap, .func (.func 54) #[] #[.pointer (some ⟨w.heap.size, 0, none⟩), .pointer (some ⟨w.heap.size + 1, 0, none⟩), .pointer (some ⟨w.heap.size + 1 + 1, 0, none⟩)]] W fun e w' => e = .returned (pairV (firstP (fun i k => rwB l i k && sta1 l M i k) l.length)) ∧ Below w.heap.size w w') := by
    rintro W rfl
    have hb : Below w.heap.size w (((w.alloc (.cells #[.map (some Mp)] 63)).alloc (.cells #[.slice a l.length cap] 22)).alloc (.cells #[.slice (some ⟨B, 0, none⟩) l.length l.length] 30)) := belA (belA (belA (Below.refl _ _) _) _) _
    refine (least54_any l (sta1 l M) a cap _ _ _ _ (by omega) (hl.below hb) fun W' i k hW hi hk => ?_).mono fun e w' ⟨he, hw⟩ => ⟨he, belJ hb hw⟩
    have hb2 : Below w.heap.size w W' := belJ hb hW
    refine stale1_any l ok a cap _ _ _ base B Mp rb M W' (hl.below hb2) (h.below hb2) (hm.below hb2 hMp) ?_ ?_ ?_ i k hi hk
    · rw [hW.cell (p := ⟨w.heap.size, 0, none⟩) (by simp; omega), World.cell?_alloc_lt _ _ ⟨w.heap.size, 0, none⟩ (by simp; omega)]; simp
    · rw [hW.cell (p := ⟨w.heap.size + 1, 0, none⟩) (by simp), World.cell?_alloc_lt _ _ ⟨w.heap.size + 1, 0, none⟩ (by simp)]; simp
    · rw [hW.cell (p := ⟨w.heap.size + 1 + 1, 0, none⟩) (by simp)]
      have e := heap_alloc_new ((w.alloc (.cells #[.map (some Mp)] 63)).alloc (.cells #[.slice a l.length cap] 22)) (.cells #[.slice (some ⟨B, 0, none⟩) l.length l.length] 30)
      have es : ((w.alloc (.cells #[.map (some Mp)] 63)).alloc (.cells #[.slice a l.length cap] 22)).heap.size = w.heap.size + 1 + 1 := by simp
      rw [es] at e
      rw [cell_of_row _ _ 0 _ 30 _ e]; rfl
  clear hl h
  go_enter Tryd.func34, Tryd.ntmps34
  go_wp2_with (go_at_call 52; refine (HC.out _ rfl).mono ?_; rintro e w2 ⟨rfl, hb2⟩; unfold pairV)
  go_ret2
  exact ⟨rfl, hb2⟩

end Go.Proofs.YtfojmbbhcmeejaaDoor

namespace Go.Proofs.YtfojmbbhcmeejaaDoor
open Go.RowKit

theorem results_tmp4K {fn : Func} {t u v x : Tmp} (h : fn.results = #[.tmp t, .tmp u, .tmp v, .tmp x]) (tmps : Array Value) (P : Program) (w : World) :
    (results fn tmps).run P w = .ok (.tuple #[tmps.getD t undef, tmps.getD u undef, tmps.getD v undef, tmps.getD x undef]) w := by
  simp [results, h]

set_option maxHeartbeats 400000 in
theorem writersOf_none (a : Option Addr) (cap : Nat) (w : World) : Calls Tryd.prog 27 #[.slice a 0 cap] w fun e w' => WTold [] w e w' := by
  have hmm := @run_makeMap Tryd.prog
  go_enter Tryd.func27, Tryd.ntmps27
  go_wp2_with (go_at_call 48; refine (checkOps_none a cap _).mono ?_; rintro e w' ⟨rfl, rfl⟩; rw [show toldV 0 = .nilIface from by simp [toldV]])
  clear hmm
  refine wp_loop_rounds 1 ?_
  rw [rounds_succ]
  go_wp2
  go_ret2
  exact ⟨belA (Below.refl _ _) _, .inr ⟨kTold_all told_nilQ (fun j hj => absurd hj (by simp)), _, Nat.le_refl _, mapSpot_made _, rfl⟩⟩

theorem writersOf_any (l : List Opn) (a : Option Addr) (cap : Nat) (w : World) (hlen : l.length ≤ 60) (hcap : l.length ≤ cap) (hl : OpsQ w a l) :
    Calls Tryd.prog 27 #[.slice a l.length cap] w fun e w' => WTold l w e w' := by
  rcases hl with rfl | ⟨b, off, rfl, hb, hl⟩
  · exact writersOf_none a cap w
  · by_cases h0 : 0 < l.length
    · exact writersOf_some l b off cap w hlen h0 hcap hl hb
    · obtain rfl : l = [] := List.length_eq_zero_iff.1 (by omega)
      exact writersOf_none _ cap w

set_option maxHeartbeats 400000 in
theorem kCheck_any (l : List Opn) (a : Option Addr) (cap : Nat) (w : World) (hlen : l.length ≤ 60) (hcap : l.length ≤ cap) (hl : OpsQ w a l) :
    Calls Tryd.prog 11 #[.slice a l.length cap] w fun e w' => ∃ n, e = .returned (toldV n) ∧ KTold l n ∧ Below w.heap.size w w' := by
  have HC := hideIt (writersOf_any l a cap w hlen hcap hl)
  clear hl
  go_enter Tryd.func11, Tryd.ntmps11
  go_wp2_with fail
  refine HC.out.mono ?_
  rintro e w1 ⟨hb1, ⟨n, hn, ht, rfl⟩ | ⟨ht, M, _, _, rfl⟩⟩
  · go_wp2
    go_ret
    exact ⟨n, rfl, ht, hb1⟩
  · go_wp2
    go_ret
    exact ⟨0, by simp [toldV], ht, hb1⟩

/-- What Ahead tells. -/
def AhTold (l : List Opn) (w : World) (e : Ending) (w' : World) : Prop :=
  Below w.heap.size w w' ∧ ((∃ n, n ≠ 0 ∧ KTold l n ∧ e = .returned (.tuple #[.slice none 0 0, toldV n])) ∨
    (KTold l 0 ∧ firstN (thinB l) l.length ≠ none ∧ e = .returned (.tuple #[.slice none 0 0, toldV 8])) ∨
    (KTold l 0 ∧ firstN (thinB l) l.length = none ∧ ∃ B rb, MatAt w' w.heap.size B l.length l.length rb (aheadK l) ∧ e = .returned (.tuple #[.slice (some ⟨B, 0, none⟩) l.length l.length, .nilIface])))

theorem orNone_ne (o : Option Nat) : (orNone o != -1) = o.isSome := by
  cases o with
  | none => rfl
  | some n => simp [orNone]

set_option maxHeartbeats 1000000 in
theorem kAhead_any (l : List Opn) (a : Option Addr) (cap : Nat) (w : World) (hlen : l.length ≤ 60) (hcap : l.length ≤ cap) (hl : OpsQ w a l) :
    Calls Tryd.prog 14 #[.slice a l.length cap] w fun e w' => AhTold l w e w' := by
  have HC := hideIt (writersOf_any l a cap w hlen hcap hl)
  have HL := hideIt hl
  clear hl
  go_enter Tryd.func14, Tryd.ntmps14
  go_wp2_with fail
  refine HC.out.mono ?_
  rintro e w1 ⟨hb1, ⟨n, hn, ht, rfl⟩ | ⟨ht, M, hM, hm, rfl⟩⟩
  · have HV := hideIt (show toldV n = .iface 23 (.int .i64 n) from by simp [toldV, hn])
    rw [HV.out]
    clear HC
    go_wp2
    go_ret2
    exact ⟨hb1, .inl ⟨n, hn, ht, by rw [HV.out]; rfl⟩⟩
  · have HT := hideIt ht
    have HB1 := hideIt hb1
    have HM := hideIt hm
    have hMlt : M < w1.heap.size := hm.lt
    have HTh := hideIt (thin_any l (kOk_of ht) a cap M w1 (HL.out.below hb1) hm hMlt)
    have HAh : Hid (∀ W, Below w1.heap.size w1 W → Calls Tryd.prog 31 #[.map (some M), .slice a l.length cap] W fun e w' => ∃ B rb, e = .returned (.slice (some ⟨B, 0, none⟩) l.length l.length) ∧ MatAt w' W.heap.size B l.length l.length rb (aheadK l) ∧ Below W.heap.size W w') :=
      fun W hW => ahead_any l (kOk_of HT.out) a cap M W (HL.out.below (belJ HB1.out hW)) (HM.out.below hW hMlt) (Nat.lt_of_lt_of_le hMlt hW.size)
    clear ht hb1 hm HC
    have HE := hideIt (orNone_ne (firstN (thinB l) l.length))
    cases hf : firstN (thinB l) l.length with
    | none =>
      have HFN := hideIt hf
      rw [hf] at HTh HE
      clear hf
      have hx := HE.out
      go_wp2_with fail
      refine HTh.out.mono ?_
      rintro e w2 ⟨rfl, hb2⟩
      go_wp2_with fail
      refine (HAh.out _ hb2).mono ?_
      rintro e w3 ⟨B, rb, rfl, hmat, hb3⟩
      go_wp2
      go_ret2
      exact ⟨belJ (belJ HB1.out hb2) hb3, .inr (.inr ⟨HT.out, HFN.out, B, rb, hmat.mono (Nat.le_trans HB1.out.size hb2.size), rfl⟩)⟩
    | some i =>
      have HFN := hideIt hf
      rw [hf] at HTh HE
      clear hf
      have hx := HE.out
      generalize orNone (some i) = z at HTh hx
      go_wp2_with fail
      refine HTh.out.mono ?_
      rintro e w2 ⟨rfl, hb2⟩
      go_wp2
      go_ret2
      exact ⟨belJ HB1.out hb2, .inr (.inl ⟨HT.out, by rw [HFN.out]; simp, by simp [toldV]⟩)⟩

/-- What Finds tells. -/
def FdTold (l : List Opn) (w : World) (e : Ending) (w' : World) : Prop :=
  ∃ n c a b, e = .returned (.tuple #[.int .i64 c, .int .i64 a, .int .i64 b, toldV n]) ∧ KTold l n ∧ (n = 0 → (c, a, b) = findsK l) ∧ (n ≠ 0 → c = 0 ∧ a = 0 ∧ b = 0) ∧ Below w.heap.size w w'

theorem pairI_ne (o : Option (Nat × Nat)) : ((pairI o).1 != -1) = o.isSome := by
  cases o with
  | none => rfl
  | some n => simp [pairI]

set_option maxHeartbeats 2000000 in
theorem kFinds_any (l : List Opn) (a : Option Addr) (cap : Nat) (w : World) (hlen : l.length ≤ 60) (hcap : l.length ≤ cap) (hl : OpsQ w a l) :
    Calls Tryd.prog 17 #[.slice a l.length cap] w fun e w' => FdTold l w e w' := by
  have HC := hideIt (writersOf_any l a cap w hlen hcap hl)
  have HL := hideIt hl
  clear hl
  go_enter Tryd.func17, Tryd.ntmps17
  go_wp2_with fail
  refine HC.out.mono ?_
  rintro e w1 ⟨hb1, ⟨n, hn, ht, rfl⟩ | ⟨ht, M, hM, hm, rfl⟩⟩
  · have HV := hideIt (show toldV n = .iface 23 (.int .i64 n) from by simp [toldV, hn])
    rw [HV.out]
    clear HC
    go_wp2
    (try simp only [Exit.inBlock, Exit.then]); refine bodyPost_ret (results_tmp4K rfl _ _ _) rfl ?_
    exact ⟨n, 0, 0, 0, by rw [HV.out]; rfl, ht, fun h => absurd h hn, fun _ => ⟨rfl, rfl, rfl⟩, hb1⟩
  · have HT := hideIt ht
    have HOk := hideIt (kOk_of ht)
    have HB1 := hideIt hb1
    have HM := hideIt hm
    have hMlt : M < w1.heap.size := hm.lt
    have HTh := hideIt (thin_any l (kOk_of ht) a cap M w1 (HL.out.below hb1) hm hMlt)
    have HAh : Hid (∀ W, Below w1.heap.size w1 W → Calls Tryd.prog 31 #[.map (some M), .slice a l.length cap] W fun e w' => ∃ B rb, e = .returned (.slice (some ⟨B, 0, none⟩) l.length l.length) ∧ MatAt w' W.heap.size B l.length l.length rb (aheadK l) ∧ Below W.heap.size W w') :=
      fun W hW => ahead_any l HOk.out a cap M W (HL.out.below (belJ HB1.out hW)) (HM.out.below hW hMlt) (Nat.lt_of_lt_of_le hMlt hW.size)
    have HEm : Hid (∀ W B rb, Below w1.heap.size w1 W → MatAt W w1.heap.size B l.length l.length rb (aheadK l) → Calls Tryd.prog 33 #[.slice a l.length cap, .slice (some ⟨B, 0, none⟩) l.length l.length] W fun e w' => e = .returned (pairV (firstP (empB l (aheadK l)) l.length)) ∧ Below W.heap.size W w') :=
      fun W B rb hW hmat => empty_any l a cap w1.heap.size B rb (aheadK l) W hlen (HL.out.below (belJ HB1.out hW)) hmat
    have HSt : Hid (∀ W B rb, Below w1.heap.size w1 W → MatAt W w1.heap.size B l.length l.length rb (aheadK l) → Calls Tryd.prog 34 #[.map (some M), .slice a l.length cap, .slice (some ⟨B, 0, none⟩) l.length l.length] W fun e w' => e = .returned (pairV (firstP (staB l (aheadK l)) l.length)) ∧ Below W.heap.size W w') :=
      fun W B rb hW hmat => stale_any l HOk.out a cap w1.heap.size B M rb (aheadK l) W (HL.out.below (belJ HB1.out hW)) hmat (HM.out.below hW hMlt) (Nat.lt_of_lt_of_le hMlt hW.size)
    clear ht hb1 hm HC
    have HK : Hid (findsK l = match firstN (thinB l) l.length with
      | some i => pairK 1 (i, i)
      | none => match firstN (fun i => aheadK l i i) l.length with
        | some i => pairK 2 (i, i)
        | none => match firstP (empB l (aheadK l)) l.length with
          | some p => pairK 3 p
          | none => match firstP (staB l (aheadK l)) l.length with
            | some p => pairK 4 p
            | none => (0, 0, 0)) := rfl
    have HE := hideIt (orNone_ne (firstN (thinB l) l.length))
    cases hf : firstN (thinB l) l.length with
    | some i =>
      rw [hf] at HTh HE HK
      clear hf
      have hx := HE.out
      have hz : Hid (orNone (some i) = (i : Int)) := rfl
      rw [hz.out] at HTh hx
      go_wp2_with fail
      refine HTh.out.mono ?_
      rintro e w2 ⟨rfl, hb2⟩
      go_wp2
      (try simp only [Exit.inBlock, Exit.then]); refine bodyPost_ret (results_tmp4K rfl _ _ _) rfl ?_
      exact ⟨0, 1, i, i, by simp [toldV], HT.out, fun _ => HK.out.symm, fun h => absurd rfl h, belJ HB1.out hb2⟩
    | none =>
      rw [hf] at HTh HE HK
      clear hf
      have hx := HE.out
      go_wp2_with fail
      refine HTh.out.mono ?_
      rintro e w2 ⟨rfl, hb2⟩
      have HB2 := hideIt hb2
      clear hb2
      go_wp2_with fail
      refine (HAh.out _ HB2.out).mono ?_
      rintro e w3 ⟨B, rb, rfl, hmat, hb3⟩
      have HMat := hideIt (hmat.mono HB2.out.size)
      have HB3 := hideIt (belJ HB2.out hb3)
      clear hmat hb3 hx HE
      have HRo := hideIt (round_any w1.heap.size B l.length rb (aheadK l) w3 hlen HMat.out)
      have HE := hideIt (orNone_ne (firstN (fun i => aheadK l i i) l.length))
      cases hf : firstN (fun i => aheadK l i i) l.length with
      | some i =>
        rw [hf] at HRo HE HK
        clear hf
        have hx := HE.out
        have hz : Hid (orNone (some i) = (i : Int)) := rfl
        rw [hz.out] at HRo hx
        go_wp2_with fail
        refine HRo.out.mono ?_
        rintro e w4 ⟨rfl, rfl⟩
        go_wp2
        (try simp only [Exit.inBlock, Exit.then]); refine bodyPost_ret (results_tmp4K rfl _ _ _) rfl ?_
        exact ⟨0, 2, i, i, by simp [toldV], HT.out, fun _ => HK.out.symm, fun h => absurd rfl h, belJ HB1.out HB3.out⟩
      | none =>
        rw [hf] at HRo HE HK
        clear hf
        have hx := HE.out
        go_wp2_with fail
        refine HRo.out.mono ?_
        rintro e w4 ⟨rfl, hw4⟩
        subst hw4
        clear hx HE
        have HE := hideIt (pairI_ne (firstP (empB l (aheadK l)) l.length))
        have HEm := hideIt (HEm.out _ B rb HB3.out HMat.out)
        cases hf : firstP (empB l (aheadK l)) l.length with
        | some p =>
          rw [hf] at HEm HE HK
          clear hf
          have hx := HE.out
          unfold pairV at HEm
          have hz1 : Hid ((pairI (some p)).1 = (p.1 : Int)) := rfl
          have hz2 : Hid ((pairI (some p)).2 = (p.2 : Int)) := rfl
          rw [hz1.out, hz2.out] at HEm
          rw [hz1.out] at hx
          go_wp2_with fail
          refine HEm.out.mono ?_
          rintro e w5 ⟨rfl, hb5⟩
          go_wp2
          (try simp only [Exit.inBlock, Exit.then]); refine bodyPost_ret (results_tmp4K rfl _ _ _) rfl ?_
          exact ⟨0, 3, p.1, p.2, by simp [toldV], HT.out, fun _ => HK.out.symm, fun h => absurd rfl h, belJ (belJ HB1.out HB3.out) hb5⟩
        | none =>
          rw [hf] at HEm HE HK
          clear hf
          have hx := HE.out
          unfold pairV at HEm
          go_wp2_with fail
          refine HEm.out.mono ?_
          rintro e w5 ⟨rfl, hb5⟩
          have HB5 := hideIt (belJ HB3.out hb5)
          have HMat5 := hideIt (HMat.out.below hb5)
          clear hb5
          clear hx HE
          have HE := hideIt (pairI_ne (firstP (staB l (aheadK l)) l.length))
          have HSt := hideIt (HSt.out _ B rb HB5.out HMat5.out)
          cases hf : firstP (staB l (aheadK l)) l.length with
          | some p =>
            rw [hf] at HSt HE HK
            clear hf
            have hx := HE.out
            unfold pairV at HSt
            have hz1 : Hid ((pairI (some p)).1 = (p.1 : Int)) := rfl
            have hz2 : Hid ((pairI (some p)).2 = (p.2 : Int)) := rfl
            rw [hz1.out, hz2.out] at HSt
            rw [hz1.out] at hx
            go_wp2_with fail
            refine HSt.out.mono ?_
            rintro e w6 ⟨rfl, hb6⟩
            go_wp2
            (try simp only [Exit.inBlock, Exit.then]); refine bodyPost_ret (results_tmp4K rfl _ _ _) rfl ?_
            exact ⟨0, 4, p.1, p.2, by simp [toldV], HT.out, fun _ => HK.out.symm, fun h => absurd rfl h, belJ (belJ HB1.out HB5.out) hb6⟩
          | none =>
            rw [hf] at HSt HE HK
            clear hf
            have hx := HE.out
            unfold pairV at HSt
            go_wp2_with fail
            refine HSt.out.mono ?_
            rintro e w6 ⟨rfl, hb6⟩
            go_wp2
            (try simp only [Exit.inBlock, Exit.then]); refine bodyPost_ret (results_tmp4K rfl _ _ _) rfl ?_
            exact ⟨0, 0, 0, 0, by simp [toldV], HT.out, fun _ => HK.out.symm, fun h => absurd rfl h, belJ (belJ HB1.out HB5.out) hb6⟩

end Go.Proofs.YtfojmbbhcmeejaaDoor
