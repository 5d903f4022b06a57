/-
  The program's Level, walked.
  The document's round and either, walked.
  What the document's StoryFinds gathers, in plain Lean.
-/
import Derived.Test.YtodanhjookgbeaaDoorIfW
import Derived.Test.YtodanhjookgbeaaDoorIgW
import Derived.Test.YtodanhjookgbeaaDoorJbW
import Derived.Test.YtodanhjookgbeaaDoorGoWZ
import Derived.Test.YtodanhjookgbeaaDoorWalkAZ
import Derived.Deep.RegionHeld3
import Derived.Test.YtodanhjookgbeaaDoorJeW
namespace Go.Proofs.YtodanhjookgbeaaDoor
open Go.RowKit

/-- The level of a story. -/
def lvlI (s : ISt) : Int := if fndB s 0 = true then 0 else if fndB s 1 = true ∨ fndB s 2 = true ∨ fndB s 3 = true then 1 else if fndB s 5 = true then 2 else 3
def LevTold (s : ISt) (w : World) (e : Ending) (w' : World) : Prop :=
  e = .returned (.tuple #[.int .i64 (if fltI s = 0 then lvlI s else 0), toldV (fltI s)]) ∧ Below w.heap.size w w'

set_option maxRecDepth 100000 in
set_option maxHeartbeats 2000000 in
theorem level_any (s : ISt) (a b : Option Addr) (ca cb : Nat) (w : World) (h : StyQ w a ca b cb s) :
    Calls Tryd.prog 16 #[.agg #[.slice a s.txs.length ca, .slice b s.ord.length cb]] w fun e w' => LevTold s w e w' := by
  have HB : Hid (Below w.heap.size w (w.alloc (.cells #[.slice a s.txs.length ca, .slice b s.ord.length cb] 25))) := belA (Below.refl _ _) _
  have HF := hideIt (finds_any s a b ca cb _ (h.below HB.out))
  unfold FinTold at HF
  clear h
  go_enter Tryd.func16, Tryd.ntmps16
  go_wp2_with fail
  refine HF.out.mono ?_
  rintro e w1 ⟨v, rfl, hY, hN, hb1⟩
  have HB1 := hideIt (belJ HB.out hb1)
  clear HF hb1 HB
  by_cases hf : fltI s = 0
  · obtain ⟨B, rfl, hB⟩ := hY hf
    have c0 := hB.bit 0 (by omega)
    have c1 := hB.bit 1 (by omega)
    have c2 := hB.bit 2 (by omega)
    have c3 := hB.bit 3 (by omega)
    have c5 := hB.bit 5 (by omega)
    have HE : Hid (∀ r, lvlI s = r → LevTold s w (.returned (.tuple #[.int .i64 r, .nilIface])) w1) := fun r hr => ⟨by rw [if_pos hf, hr, hf]; rfl, HB1.out⟩
    unfold lvlI at HE
    rw [hf, show toldV 0 = .nilIface from rfl]
    clear hY hN hB hf
    generalize fndB s 0 = x0 at *
    generalize fndB s 1 = x1 at *
    generalize fndB s 2 = x2 at *
    generalize fndB s 3 = x3 at *
    generalize fndB s 5 = x5 at *
    cases x0
    · cases x1
      · cases x2
        · cases x3
          · cases x5
            · have HE2 := hideIt (HE.out 3 (by simp))
              clear HE
              go_wp2
              go_ret2
              exact HE2.out
            · have HE2 := hideIt (HE.out 2 (by simp))
              clear HE
              go_wp2
              go_ret2
              exact HE2.out
          · have HE2 := hideIt (HE.out 1 (by simp))
            clear HE
            go_wp2
            go_ret2
            exact HE2.out
        · have HE2 := hideIt (HE.out 1 (by simp))
          clear HE
          go_wp2
          go_ret2
          exact HE2.out
      · have HE2 := hideIt (HE.out 1 (by simp))
        clear HE
        go_wp2
        go_ret2
        exact HE2.out
    · have HE2 := hideIt (HE.out 0 (by simp))
      clear HE
      go_wp2
      go_ret2
      exact HE2.out
  · obtain rfl := hN hf
    clear hY hN
    rw [told_ne hf]
    go_wp2
    go_ret2
    exact ⟨by rw [if_neg hf, told_ne hf]; rfl, HB1.out⟩
end Go.Proofs.YtodanhjookgbeaaDoor

namespace Go.Proofs.YtodanhjookgbeaaDoor
open Go.RowKit

theorem dClosed_any (n : Nat) (hn : n ≤ 40) (A : Nat → Nat → Bool) (v : Value) (w : World) (h : ReadM w v n A) :
    Calls Tryd.prog 37 #[v] w fun e w' => ∃ v', e = .returned v' ∧ ReadM w' v' n (war A n) ∧ Below w.heap.size w w' := by
  obtain ⟨a, cap, rfl, hg⟩ := grQ_readN h
  have := rClosed_any (matN n A) (matN_ok hn A) a cap w hg
  rw [matN_len] at this
  refine this.mono ?_
  rintro e w1 ⟨v', gs, A', rfl, ho, hl, hA, hb⟩
  rw [matN_len] at ho hl hA
  exact ⟨v', rfl, (ho.same fun i k hi hk => by rw [hl] at hi; rw [hA i k hi hk, war_mat hi hk]).readM hl, hb⟩

set_option maxRecDepth 100000 in
set_option maxHeartbeats 2000000 in
theorem dRound_any (n : Nat) (hn : n ≤ 40) (A : Nat → Nat → Bool) (v : Value) (w : World) (h : ReadM w v n A) :
    Calls Tryd.prog 35 #[v] w fun e w' => e = .returned (.bool (rndB A n)) ∧ Below w.heap.size w w' := by
  have HC := hideIt (dClosed_any n hn A v w h)
  have HY : Hid (∀ x, x < n → war A n x x = true → rndB A n = true) := fun x hx h => by
    unfold rndB
    rw [List.any_eq_true]
    exact ⟨x, List.mem_range.2 hx, h⟩
  have HN : Hid ((∀ x, x < n → war A n x x = false) → rndB A n = false) := fun h => by
    unfold rndB
    rw [Bool.eq_false_iff, Ne, List.any_eq_true]
    rintro ⟨x, hx, h1⟩
    rw [h x (List.mem_range.1 hx)] at h1
    cases h1
  generalize rndB A n = R at *
  generalize war A n = M at *
  clear h
  go_enter Tryd.func35, Tryd.ntmps35
  go_wp2_with fail
  refine HC.out.mono ?_
  rintro e w1 ⟨v', rfl, hr, hb⟩
  have HB := hideIt hb
  obtain ⟨a, cap, rfl, hc, hr⟩ := hr
  have HR := hideIt hr
  clear hr hb HC
  go_wp2
  go_loopw [9] (fun x wr => ∃ i : Nat, i ≤ n ∧ x = .int .i64 i ∧ (∀ p, p < i → M p p = false) ∧ wr = w1) (fun x _ => n - (intOf x).toNat)
  case atStart => exact ⟨0, by omega, rfl, fun p hp => absurd hp (by omega), rfl⟩
  case round =>
    obtain ⟨i, hi, rfl, hz, rfl⟩ := hrel
    have HZ := hideIt hz
    clear hz
    by_cases hin : i < n
    · have hin' : (i : Int) < n := by omega
      obtain ⟨g, off, r, rfl, x0, x1⟩ := HR.out i hin
      replace x1 := x1 i hin
      have HYi := hideIt (HY.out i hin)
      have HZi : Hid (M i i = false → ∀ p, p < i + 1 → M p p = false) := fun h0 p hp => by
        by_cases e : p = i
        · subst e; exact h0
        · exact HZ.out p (by omega)
      generalize M i i = y at *
      cases y
      · have HP := hideIt (HZi.out rfl)
        clear HZi HYi
        go_wp2
        go_roundw
        case rel => exact ⟨i + 1, by omega, by go_num, HP.out, trivial⟩
        case measure => simp [intOf]; omega
      · have HP := hideIt (HYi.out rfl)
        clear HZi HYi
        go_wp2
        go_ret
        exact ⟨ret_bool HP.out.symm, HB.out⟩
    · have HP := hideIt (HN.out fun p hp => HZ.out p (by omega))
      go_wp2
      go_ret
      exact ⟨ret_bool HP.out.symm, HB.out⟩

/-- One of the first graphs. -/
def orN (G : Nat → Nat → Nat → Bool) (m : Nat) (i k : Nat) : Bool := (List.range m).any fun j => G j i k
theorem orN_succ (G : Nat → Nat → Nat → Bool) (m i k : Nat) : orN G (m + 1) i k = (orN G m i k || G m i k) := by
  unfold orN
  rw [List.range_succ, List.any_append]
  simp
/-- What is filled at a moment. -/
def eiF (G : Nat → Nat → Nat → Bool) (m i k j : Nat) (p q : Nat) : Bool := if p < i ∨ (p = i ∧ q < k) then orN G m p q else if p = i ∧ q = k then orN G j p q else false
theorem eiF_start (G : Nat → Nat → Nat → Bool) (m p q : Nat) : eiF G m 0 0 0 p q = false := by
  unfold eiF
  rw [if_neg (by omega)]
  split <;> rfl
theorem eiF_next (G : Nat → Nat → Nat → Bool) (m i k p q : Nat) : eiF G m i k m p q = eiF G m i (k + 1) 0 p q := by
  unfold eiF
  by_cases h1 : p < i ∨ (p = i ∧ q < k)
  · rw [if_pos h1, if_pos (by omega)]
  · by_cases h2 : p = i ∧ q = k
    · rw [if_neg h1, if_pos h2, if_pos (by omega)]
    · rw [if_neg h1, if_neg h2, if_neg (by omega)]
      split <;> rfl
theorem eiF_row {G : Nat → Nat → Nat → Bool} {m i n p q : Nat} (hq : q < n) : eiF G m i n 0 p q = eiF G m (i + 1) 0 0 p q := by
  unfold eiF
  by_cases h1 : p < i ∨ (p = i ∧ q < n)
  · rw [if_pos h1, if_pos (by omega)]
  · rw [if_neg h1, if_neg (by omega), if_neg (by omega)]
    split <;> rfl
theorem eiF_all {G : Nat → Nat → Nat → Bool} {m n p q : Nat} (hp : p < n) : eiF G m n 0 0 p q = orN G m p q := by
  unfold eiF
  rw [if_pos (by omega)]
theorem eiF_at (G : Nat → Nat → Nat → Bool) (m i k j : Nat) : eiF G m i k j i k = orN G j i k := by
  unfold eiF
  rw [if_neg (by omega), if_pos ⟨rfl, rfl⟩]
theorem eiF_put (G : Nat → Nat → Nat → Bool) (m i k j : Nat) {x : Bool} (hx : (orN G j i k || G j i k) = x) (p q : Nat) : (if p = i ∧ q = k then x else eiF G m i k j p q) = eiF G m i k (j + 1) p q := by
  by_cases e : p = i ∧ q = k
  · rw [if_pos e, e.1, e.2, eiF_at, orN_succ, hx]
  · rw [if_neg e]
    unfold eiF
    by_cases h1 : p < i ∨ (p = i ∧ q < k)
    · rw [if_pos h1, if_pos h1]
    · rw [if_neg h1, if_neg h1, if_neg e, if_neg e]

set_option maxRecDepth 100000 in
set_option maxHeartbeats 4000000 in
theorem either_any (n : Nat) (hn : n ≤ 60) (m : Nat) (hm0 : 0 < m) (hm : m ≤ 3) (V : Nat → Value) (G : Nat → Nat → Nat → Bool) (g0 : Nat) (w : World) (hc : ∀ j, j < m → w.cell? ⟨g0, j, none⟩ = some (V j)) (hV : ∀ j, j < m → ReadM w (V j) n (G j)) :
    Calls Tryd.prog 36 #[.slice (some ⟨g0, 0, none⟩) m m] w fun e w' => ∃ v, e = .returned v ∧ ReadM w' v n (orN G m) ∧ Below w.heap.size w w' := by
  have HBl := hideIt (blank_any n hn w)
  have HC := hideIt hc
  have HV := hideIt hV
  have c0 := hc 0 hm0
  obtain ⟨a0, cap0, e0, _, _⟩ := hV 0 hm0
  rw [e0] at c0
  have hm0' : (0 : Int) < m := by omega
  clear hc hV e0
  go_enter Tryd.func36, Tryd.ntmps36
  go_wp2_with fail
  refine HBl.out.mono ?_
  rintro e w1 ⟨v, gs, rfl, ho, hl, hnd, hb⟩
  have HM := hideIt (ho.same (A' := eiF G m 0 0 0) fun p q _ _ => (eiF_start G m p q).symm)
  have HB := hideIt hb
  have HNd := hideIt hnd
  have HL := hideIt hl
  have hvs : ∃ a c, v = .slice a n c := by
    obtain ⟨a, c, e, _⟩ := ho.readM hl
    exact ⟨a, c, e⟩
  obtain ⟨av, cv, rfl⟩ := hvs
  clear ho hb hnd HBl hl c0
  go_wp2
  go_loopw [15] (fun x wr => ∃ i : Nat, i ≤ n ∧ x = .int .i64 i ∧ OutAt wr w.heap.size n (.slice av n cv) gs (eiF G m i 0 0) ∧ Below w.heap.size w wr) (fun x _ => n - (intOf x).toNat)
  case atStart => exact ⟨0, by omega, rfl, HM.out, HB.out⟩
  case round =>
    clear HM HB
    obtain ⟨i, hi, rfl, ho, hb⟩ := hrel
    have HM := hideIt ho
    have HB := hideIt hb
    clear ho hb
    by_cases hin : i < n
    · have hin' : (i : Int) < n := by omega
      go_wp2
      go_loopw [20] (fun x wz => ∃ k : Nat, k ≤ n ∧ x = .int .i64 k ∧ OutAt wz w.heap.size n (.slice av n cv) gs (eiF G m i k 0) ∧ Below w.heap.size w wz) (fun x _ => n - (intOf x).toNat)
      case atStart => exact ⟨0, by omega, rfl, HM.out, HB.out⟩
      case round =>
        clear HM HB
        obtain ⟨k, hk, rfl, ho, hb⟩ := hrel
        have HM := hideIt ho
        have HB := hideIt hb
        clear ho hb
        by_cases hkn : k < n
        · have hkn' : (k : Int) < n := by omega
          go_wp2
          go_loopw [25] (fun x wy => ∃ j : Nat, j ≤ m ∧ x = .int .i64 j ∧ OutAt wy w.heap.size n (.slice av n cv) gs (eiF G m i k j) ∧ Below w.heap.size w wy) (fun x _ => m - (intOf x).toNat)
          case atStart => exact ⟨0, by omega, rfl, HM.out, HB.out⟩
          case round =>
            clear HM HB
            obtain ⟨j, hj, rfl, ho, hb⟩ := hrel
            rename World => wy
            have HM := hideIt ho
            have HB := hideIt hb
            clear ho hb
            by_cases hjm : j < m
            · have hjm' : (j : Int) < m := by omega
              have cj := (HB.out.cell (p := ⟨g0, j, none⟩) (World.block_lt_of_cell? w _ (HC.out j hjm))).trans (HC.out j hjm)
              obtain ⟨aj, capj, ej, hcj, hrj⟩ := (HV.out j hjm).below HB.out
              obtain ⟨g, off, r, rfl, x0, x1⟩ := hrj i hin
              replace x1 := x1 k hkn
              rw [ej] at cj
              obtain ⟨gv, ov, cv', r', hr, er, ev, hcv, k0, k1, k2⟩ := HM.out.spot HL.out hin
              injection ev with ev1 _ ev3
              subst ev1 ev3
              replace k1 := k1 k hkn
              replace k2 := k2 k
              rw [eiF_at] at k1
              have HPut : Hid (∀ x, (orN G j i k || G j i k) = x → OutAt (wy.setCell ⟨r', k, none⟩ (.bool x)) w.heap.size n (.slice (some ⟨gv, ov, none⟩) n cv) gs (eiF G m i k (j + 1)) ∧ Below w.heap.size w (wy.setCell ⟨r', k, none⟩ (.bool x))) := fun x hx => by
                have h1 := HM.out.put HNd.out hr hkn x
                rw [er] at h1
                refine ⟨h1.same fun p q _ _ => eiF_put G m i k j hx p q, HB.out.setCell (p := ⟨r', k, none⟩) ?_ _⟩
                show w.heap.size ≤ r'
                rw [← er]
                exact (HM.out.bits i hr).2.1
              generalize orN G j i k = p at *
              generalize G j i k = q at *
              clear hrj HM HB ej
              go_upto_region 11 with fail
              cases p
              · cases q
                · have HP := hideIt (HPut.out false rfl)
                  clear HPut
                  go_region
                  go_wp2
                  go_roundw
                  case rel => exact ⟨j + 1, by omega, by go_num, HP.out.1.below (Below.refl _ _).drew (Nat.le_refl _), HP.out.2.drew⟩
                  case measure => simp [intOf]; omega
                · have HP := hideIt (HPut.out true rfl)
                  clear HPut
                  go_region
                  go_wp2
                  go_roundw
                  case rel => exact ⟨j + 1, by omega, by go_num, HP.out.1.below (Below.refl _ _).drew (Nat.le_refl _), HP.out.2.drew⟩
                  case measure => simp [intOf]; omega
              · have HP := hideIt (HPut.out true rfl)
                clear HPut
                go_region
                go_wp2
                go_roundw
                case rel => exact ⟨j + 1, by omega, by go_num, HP.out.1.below (Below.refl _ _).drew (Nat.le_refl _), HP.out.2.drew⟩
                case measure => simp [intOf]; omega
            · obtain rfl : j = m := by omega
              have HP := hideIt (HM.out.same fun p q _ _ => eiF_next G j i k p q)
              go_wp2
              go_roundw
              case rel => exact ⟨k + 1, by omega, by go_num, HP.out, HB.out⟩
              case measure => simp [intOf]; omega
        · obtain rfl : k = n := by omega
          have HP := hideIt (HM.out.same (A' := eiF G m (i + 1) 0 0) fun p q _ hq => eiF_row hq)
          go_wp2
          go_roundw
          case rel => exact ⟨i + 1, by omega, by go_num, HP.out, HB.out⟩
          case measure => simp [intOf]; omega
    · obtain rfl : i = n := by omega
      have HP := hideIt ((HM.out.same (A' := orN G m) fun p q hp _ => eiF_all (by rw [HL.out] at hp; exact hp)).readM HL.out)
      go_wp2
      go_ret
      exact ⟨_, rfl, HP.out, HB.out⟩
end Go.Proofs.YtodanhjookgbeaaDoor

namespace Go.Proofs.YtodanhjookgbeaaDoor
open Go.RowKit

theorem OutAt.apart {w : World} {base n g : Nat} {v : Value} {gs : List Nat} {A : Nat → Nat → Bool} (h : OutAt w base n v gs A) (hg : gs.length = n) (hb : g < base) : ReadX w v n A g := by
  obtain ⟨a, cap, rfl, hc, hr⟩ := h.readM hg
  refine ⟨a, cap, rfl, hc, fun i hi => ?_⟩
  obtain ⟨q, off, cap', r, hr', er, ev, hcv, k0, k1, k2⟩ := h.spot hg hi
  injection ev with ev1 _ ev3
  subst ev1 ev3
  refine ⟨q, off, r, rfl, ?_, ?_, k0, k1⟩
  · rcases h.row with ⟨e, _⟩ | ⟨g', off', cap', cur, e, hb', _⟩
    · cases e
    · injection e with e _ _
      injection e with e
      injection e with e
      omega
  · rw [← er]
    have := (h.bits i hr').2.1
    omega
theorem dClosedX_any (n : Nat) (hn : n ≤ 40) (A : Nat → Nat → Bool) (v : Value) (w : World) (h : ReadM w v n A) :
    Calls Tryd.prog 37 #[v] w fun e w' => ∃ v', e = .returned v' ∧ (∀ g, g < w.heap.size → ReadX w' v' n (war A n) g) ∧ Below w.heap.size w w' := by
  obtain ⟨a, cap, rfl, hg⟩ := grQ_readN h
  have := rClosed_any (matN n A) (matN_ok hn A) a cap w hg
  rw [matN_len] at this
  refine this.mono ?_
  rintro e w1 ⟨v', gs, A', rfl, ho, hl, hA, hb⟩
  rw [matN_len] at ho hl hA
  exact ⟨v', rfl, fun g hg => (ho.same fun i k hi hk => by rw [hl] at hi; rw [hA i k hi hk, war_mat hi hk]).apart hl hg, hb⟩

/-- The three graphs. -/
def edgG (s : ISt) (j : Nat) : Nat → Nat → Bool := if j = 0 then ovB s else if j = 1 then seB s else anB s
theorem orN_two (s : ISt) : orN (edgG s) 2 = orR (ovB s) (seB s) := by
  funext i k
  simp [orN, edgG, orR, List.range_succ]
theorem orN_three (s : ISt) : orN (edgG s) 3 = edB s := by
  funext i k
  simp [orN, edgG, edB, orR, List.range_succ, Bool.or_assoc]
/-- What leads back by the first pairs. -/
def acB (E A : Nat → Nat → Bool) (n i k : Nat) : Bool := ((List.range i).any fun p => (List.range n).any fun q => E p q && A q p) || (List.range k).any fun q => E i q && A q i
theorem acB_start (E A : Nat → Nat → Bool) (n : Nat) : acB E A n 0 0 = false := rfl
theorem acB_more (E A : Nat → Nat → Bool) (n i k : Nat) : acB E A n i (k + 1) = (acB E A n i k || (E i k && A k i)) := by
  unfold acB
  rw [List.range_succ, List.any_append, Bool.or_assoc]
  simp
theorem acB_row (E A : Nat → Nat → Bool) (n i : Nat) : acB E A n i n = acB E A n (i + 1) 0 := by
  unfold acB
  rw [List.range_succ, List.any_append]
  simp
theorem acB_all (E A : Nat → Nat → Bool) (n : Nat) : acB E (war A n) n n 0 = ldbB E A n := by
  unfold acB ldbB
  simp
theorem fnd_more {s : ISt} {n : Nat} {o : IOp} {L L' : List (Nat × IOp)} (hL : L' = L ++ [(n, o)]) (k : Nat) : fndL s L' k = if k = 1 then (fndL s L 1 || (othB n o && !comI s o.frm)) else if k = 2 then (fndL s L 2 || (othB n o && !lastB (verF s) o)) else false := by
  subst hL
  unfold fndL
  by_cases h1 : k = 1
  · simp [h1, abtP]
  · by_cases h2 : k = 2
    · simp [h2, btwP]
    · simp [h1, h2]
/-- Six bits, and three graphs that lie apart. -/
structure FinD (Z w : World) (Bf n : Nat) (v1 v2 v3 : Value) (A1 A2 A3 : Nat → Nat → Bool) (f : Nat → Bool) : Prop where
  bits : BitsAt Z Bf 6 f
  x1 : ReadX Z v1 n A1 Bf
  x2 : ReadX Z v2 n A2 Bf
  x3 : ReadX Z v3 n A3 Bf
  lo : w.heap.size ≤ Bf
  bel : Below w.heap.size w Z
section
variable {Z Z' w : World} {Bf n : Nat} {v1 v2 v3 : Value} {A1 A2 A3 : Nat → Nat → Bool} {f : Nat → Bool}
theorem FinD.below (h : FinD Z w Bf n v1 v2 v3 A1 A2 A3 f) (hb : Below Z.heap.size Z Z') : FinD Z' w Bf n v1 v2 v3 A1 A2 A3 f :=
  ⟨h.bits.below hb h.bits.lt, h.x1.below hb, h.x2.below hb, h.x3.below hb, h.lo, belJ h.bel hb⟩
theorem FinD.put (h : FinD Z w Bf n v1 v2 v3 A1 A2 A3 f) {m : Nat} (hm : m < 6) (x : Bool) : FinD (Z.setCell ⟨Bf, m, none⟩ (.bool x)) w Bf n v1 v2 v3 A1 A2 A3 (fun k => if k = m then x else f k) :=
  ⟨h.bits.put hm x, h.x1.set m _, h.x2.set m _, h.x3.set m _, h.lo, h.bel.setCell (p := ⟨Bf, m, none⟩) h.lo _⟩
theorem FinD.same {f' : Nat → Bool} (h : FinD Z w Bf n v1 v2 v3 A1 A2 A3 f) (e : ∀ k, k < 6 → f k = f' k) : FinD Z w Bf n v1 v2 v3 A1 A2 A3 f' := ⟨h.bits.same e, h.x1, h.x2, h.x3, h.lo, h.bel⟩
end
theorem readX_rows {w : World} {a : Option Addr} {n cap g : Nat} {A : Nat → Nat → Bool} (h : ReadX w (.slice a n cap) n A g) : ∀ i, i < n → ∃ h off r, a = some ⟨h, off, none⟩ ∧ h ≠ g ∧ r ≠ g ∧ w.cell? ⟨h, off + i, none⟩ = some (.slice (some ⟨r, 0, none⟩) n n) ∧ ∀ k, k < n → w.cell? ⟨r, k, none⟩ = some (.bool (A i k)) := by
  obtain ⟨a1, cap1, e1, _, hr⟩ := h
  injection e1 with e1
  subst e1
  exact hr
end Go.Proofs.YtodanhjookgbeaaDoor
