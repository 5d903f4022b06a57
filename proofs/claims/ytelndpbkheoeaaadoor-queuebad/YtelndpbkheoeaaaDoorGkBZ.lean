/-
  What the search tells of a register's ops, and of a queue's, against zones and pairs: plain.
  Package queue's Finds of no op, and of whatever list; the statement QueueBad, walked.
-/
import Derived.Test.YtelndpbkheoeaaaDoorGkZ
import Derived.Test.YtelndpbkheoeaaaDoorBrP
import Derived.Test.YtelndpbkheoeaaaDoorWitnessWZ
import Derived.Test.YtelndpbkheoeaaaDoorCrWZ
namespace Go.Proofs.YtelndpbkheoeaaaDoor

theorem code_just {o : Int} {ops : List Opn} (ht : Told ops 0) (h8 : ops.length ≤ 8) : ((searchM (srB o ops 1000000)).code = 1 ∨ (searchM (srB o ops 1000000)).code = 2) ∧ ((searchM (srB o ops 1000000)).code = 1 ↔ ∃ ord, ShowsM o ops (iL ord)) := by
  have h3 : (searchM (srB o ops 1000000)).code ≠ 3 := search_known h8 rfl
  have hc := search_code (srB o ops 1000000)
  refine ⟨by omega, fun h => ⟨_, valid_shows h⟩, fun ⟨ord, h⟩ => ?_⟩
  have := shows_not_invalid (bud := 1000000) ht h
  omega

theorem told_not8 {l : List Opn} {n : Int} (h : Told l n) : n ≠ 8 := by
  have hf : ∀ (l : List Opn) (x : Opn), opFaultN l x ≠ 8 := fun l x => by
    unfold opFaultN
    split
    · split
      · split
        · split
          · decide
          · split <;> decide
        · decide
      · decide
    · decide
  rcases h with ⟨_, rfl⟩ | ⟨_, _, rfl⟩ | ⟨_, k, _, _, _, rfl⟩
  · decide
  · decide
  · exact hf _ _
theorem cTold_not8 {form : Opn → Bool} {d0 : Int} {l : List Opn} {n : Int} (h : CTold form d0 l n) : n ≠ 8 := by
  obtain ⟨m, ht, ⟨_, rfl⟩ | ⟨_, ⟨_, rfl⟩ | ⟨k, _, _, _, rfl⟩⟩⟩ := h
  · exact told_not8 ht
  · decide
  · unfold cFaultAt cFaultN
    split
    · split <;> decide
    · decide

/-- Of what Zones tells: of no error, or of a value that can't have been read, the ops may be looked at. -/
theorem zTold_ok {l : List Opn} {n : Int} {L : List Zon} (h : ZTold l n L) (hn : n = 0 ∨ n = 8) : CTold zFormB 2 l 0 := by
  obtain ⟨m, hm, ⟨h0, rfl, _⟩ | ⟨rfl, _⟩ | ⟨rfl, _⟩⟩ := h
  · rcases hn with hn | hn
    · exact absurd hn h0
    · exact absurd hn (cTold_not8 hm)
  · exact hm
  · exact hm

theorem opZ_opN (l : List Opn) (i : Nat) : opZ l i = opN l i := rfl
theorem any_none {l : List Opn} {f : Opn → Bool} (h : ∀ i, i < l.length → f (opZ l i) = false) : l.any f = false := by
  rw [List.any_eq_false]
  intro x hx
  obtain ⟨i, hi, rfl⟩ := List.getElem_of_mem hx
  have := h i hi
  rw [opZ_at hi] at this
  rw [this]; simp

theorem reg_ck {l : List Opn} (h : CTold zFormB 2 l 0) : CkTold 1 l 0 := by
  have ok := zOk_of h
  refine .inr (.inr ⟨h.zero.1, any_none fun i hi => ?_, rfl⟩)
  rcases ok.kind i hi with e | e <;> simp [knowsB, e]

theorem reg_just {l : List Opn} {n : Int} {L : List Zon} {fit : Bool} {a b : Int} (h8 : l.length ≤ 8) (hz : ZTold l n L) (hn : n = 0 ∨ n = 8) (hf : n = 0 → FTold L fit a b) (hx : n ≠ 0 → fit = false) :
    ((searchM (srB 1 l 1000000)).code = 1 ∨ (searchM (srB 1 l 1000000)).code = 2) ∧ ((searchM (srB 1 l 1000000)).code = 1 ↔ fit = true) := by
  have hc := zTold_ok hz hn
  have ok := zOk_of hc
  obtain ⟨h1, h2⟩ := code_just (o := 1) hc.zero.1 h8
  refine ⟨h1, ?_⟩
  rw [h2, zone_just hz hn hc hf hx]
  have hr : RegOps l (opZ l 0).k := ⟨ok.key, ok.kind, fun i hi => by have := ok.back i hi; show 0 ≤ (opZ l i).e; omega, fun i hi hd => (ok.write i hi hd).2⟩
  exact reg_shows hr (rg_ok ok)

/-! ### a queue -/

theorem que_ck {l : List Opn} (h : CTold qFormB 9 l 0) : CkTold 4 l 0 := by
  have ok := qOk_of h
  refine .inr (.inr ⟨h.zero.1, any_none fun i hi => ?_, rfl⟩)
  rcases ok.kind i hi with e | e <;> simp [knowsB, e]

theorem que_just {l : List Opn} {c a b : Int} (h8 : l.length ≤ 8) (hc : CTold qFormB 9 l 0) (hf : FindsT l c a b) :
    ((searchM (srB 4 l 1000000)).code = 1 ∨ (searchM (srB 4 l 1000000)).code = 2) ∧ ((searchM (srB 4 l 1000000)).code = 1 ↔ c = 0) := by
  have ok := qOk_of hc
  obtain ⟨ht, hk⟩ := hc.zero
  obtain ⟨hlen, ho⟩ := toldNil ht
  have hform : ∀ i, i < l.length → 0 ≤ (opZ l i).e ∧ ((opZ l i).d = 9 → (opZ l i).r = 0) ∧ ((opZ l i).d = 10 → (opZ l i).r ≠ -1) := fun i hi => by
    have hfm := (cFault_zero (hk i hi)).2.1
    unfold qFormB at hfm
    split at hfm
    · next e => simp at hfm; exact ⟨hfm.1.1, fun _ => hfm.2, fun k => by omega⟩
    · split at hfm
      · next e => simp at hfm; exact ⟨hfm.1, fun k => by omega, fun _ => hfm.2⟩
      · cases hfm
  have hpos : ∀ i, i < l.length → 0 ≤ (opZ l i).c ∧ (opZ l i).c < (opZ l i).e := fun i hi => by
    have h3 := (opFault0 (ho i hi)).2.2.1
    have he := (hform i hi).1
    unfold orderB at h3
    rw [if_neg (by omega)] at h3
    simp at h3
    exact ⟨h3.1.1, h3.2⟩
  have hnum : ∀ i, i < l.length → (opZ l i).e ≤ 1000000 := fun i hi => by
    have h1 := (opFault0 (ho i hi)).1
    simp [rangeB, inB, numB] at h1
    omega
  have hsh : ∀ i j, i < l.length → j < l.length → (opZ l i).e ≠ (opZ l j).c := fun i j hi hj => by
    rcases Nat.lt_trichotomy i j with h | h | h
    · have h4 := (opFault0 (ho j hj)).2.2.2.1 _ (mem_take h hj)
      unfold shareB hasB at h4
      simp at h4
      exact h4.1.2
    · subst h; have := hpos i hi; omega
    · have h4 := (opFault0 (ho i hi)).2.2.2.1 _ (mem_take h hi)
      have he := (hform i hi).1
      unfold shareB hasB at h4
      simp at h4
      have := h4.2 (by omega)
      exact fun e => this.1 e.symm
  have hq : QueOps l (opZ l 0).k := ⟨fun i hi => (cFault_zero (hk i hi)).1, ok.kind, fun i hi => (hform i hi).1, fun i hi hd => (hform i hi).2.1 hd, fun i hi hd => (hform i hi).2.2 hd⟩
  have hQ : (rgOf l 9).QOk := by
    refine ⟨by show l.length ≤ 64; omega, hpos, hnum, hsh, fun i j hi hj hw hw' e => ?_⟩
    have hw1 : (opZ l i).d = 9 := (rgI_w i 9).1 hw
    have hw2 : (opZ l j).d = 9 := (rgI_w j 9).1 hw'
    refine ok.once i j hi hj hw1 hw2 ?_
    have e' : (if (opZ l i).d == 9 then (opZ l i).a else (opZ l i).r) = (if (opZ l j).d == 9 then (opZ l j).a else (opZ l j).r) := e
    simpa [hw1, hw2] using e'
  obtain ⟨h1, h2⟩ := code_just (o := 4) ht h8
  refine ⟨h1, ?_⟩
  rw [h2, que_shows hq hQ, finds_zero hf]
  exact fine_iff ok fun i hi => (hform i hi).1

end Go.Proofs.YtelndpbkheoeaaaDoor

namespace Go.Proofs.YtelndpbkheoeaaaDoor
open Go.RowKit

set_option maxHeartbeats 1000000 in
theorem pairs_none (c : Int) (sl : Value) (M n : Nat) (w : World) (hm : MapV Tryd.prog Life.val w M n (fun _ => none)) :
    Calls Tryd.prog 31 #[.map (some M), .int .i64 c, sl] w fun e w' => e = .returned (.slice none 0 0) ∧ Below w.heap.size w w' := by
  have HM0 := hideIt hm
  clear hm
  go_enter Tryd.func31, Tryd.ntmps31
  go_wp2_with (at_range; refine wpList_range_v (mk := Life.val) _ Tryd.underlying3 rfl _ _ rfl _ Tryd.underlying72 _ _ _ rfl HM0.out ?_; intro w2 hr2 hg2 hs2 hc2)
  go_frame
  go_loopw [7] (fun v wr => v = .slice none 0 0 ∧ (∃ (f : Int → Option Life) (left : Int → Bool), RangeV Tryd.prog Life.val wr M w.heap.size n f left ∧ ∀ q, f q = none) ∧ Below w.heap.size w wr) (fun _ _ => 0)
  case atStart => exact ⟨rfl, ⟨_, _, hr2, fun _ => rfl⟩, (Below.refl w.heap.size w).grown hg2 (Nat.le_refl _) (fun k hk => by cases hk)⟩
  case round =>
    obtain ⟨rfl, ⟨f, left, hrg, hf⟩, hnx⟩ := hrel
    have HNX := hideIt hnx
    have HF := hideIt hf
    clear hnx hf
    go_wp2_with (at_next; refine wpList_next_v _ Tryd.underlying3 rfl _ rfl M w.heap.size n f left rfl hrg ?_ ?_)
    · intro _
      go_wp2
      go_ret
      exact ⟨rfl, HNX.out⟩
    · intro u t w3 hwf hfu
      rw [HF.out u] at hfu
      cases hfu

set_option maxHeartbeats 1000000 in
theorem finds_none (a : Option Addr) (cap : Nat) (w : World) : Calls Tryd.prog 16 #[.slice a 0 cap] w fun e w' => FnTold [] w e w' := by
  have HC := hideIt (qCheck_none a cap w)
  have HCT : Hid (CTold qFormB 9 [] 0) := cTold_all told_nilQ (fun j hj => absurd hj (by simp))
  have HF : Hid (FindsT [] 0 0 0) := .inl ⟨rfl, rfl, rfl, fun c _ _ i k hi => absurd hi (by simp)⟩
  go_enter Tryd.func16, Tryd.ntmps16
  go_wp2_with fail
  refine HC.out.mono ?_
  rintro e w1 ⟨rfl, hb1⟩
  have HB1 := hideIt hb1
  have HV := hideIt (lives_any [] a cap w1 (by simp) (.inl rfl) told_nilQ)
  clear hb1 HC
  rw [show toldV 0 = .nilIface from by simp [toldV]]
  go_wp2_with fail
  refine HV.out.mono ?_
  rintro e w2 ⟨M, rfl, hM1, hm2, hb2⟩
  have HM2 : Hid (MapV Tryd.prog Life.val w2 M 0 (fun _ => none)) := hm2
  have HB2 := hideIt hb2
  have hMlt := hm2.lt
  clear hm2 hb2 HV
  go_wp2
  go_loopw [2] (fun i wr => ∃ k : Nat, 1 ≤ k ∧ k ≤ 5 ∧ i = .int .i64 k ∧ Below w2.heap.size w2 wr) (fun i _ => 6 - (intOf i).toNat)
  case atStart => exact ⟨1, by omega, by omega, rfl, Below.refl _ _⟩
  case round =>
    obtain ⟨k, hk1, hk5, rfl, hnx⟩ := hrel
    have HNX := hideIt hnx
    have HBW := hideIt (HB1.out.trans ((HB2.out.trans (hnx.mono HB2.out.size)).mono HB1.out.size))
    by_cases hk : k ≤ 4
    · have hkI : (k : Int) ≤ 4 := by omega
      have HP := hideIt (pairs_none k (.slice a 0 cap) M 0 wr (HM2.out.below hnx hMlt))
      go_wp2_with fail
      refine HP.out.mono ?_
      rintro e w3 ⟨rfl, hb3⟩
      have R2 := hideIt (HNX.out.trans (hb3.mono HNX.out.size))
      clear hb3 HP
      go_wp2
      go_roundw
      case rel => exact ⟨k + 1, by omega, by omega, by go_num, R2.out⟩
      case measure => simp [intOf]; omega
    · have hkI : ¬ (k : Int) ≤ 4 := by omega
      go_wp2
      (try simp only [Exit.inBlock, Exit.then]); refine bodyPost_ret (results_tmp4 rfl _ _ _) rfl ?_
      exact ⟨0, 0, 0, 0, by simp [toldV], HCT.out, fun _ => HF.out, fun h => absurd rfl h, HBW.out⟩

theorem finds_any (l : List Opn) (a : Option Addr) (cap : Nat) (w : World) (hlen : l.length ≤ 60) (hcap : l.length ≤ cap) (hl : OpsQ w a l) :
    Calls Tryd.prog 16 #[.slice a l.length cap] w fun e w' => FnTold l w e w' := by
  rcases hl with rfl | ⟨b, off, rfl, hb, hl⟩
  · exact finds_none a cap w
  · exact finds_some l b off cap w hlen hcap hl hb

theorem opsQ_of {w : World} {u : Value} {l : List Opn} (h : OpsIn w u l) : ∃ a cap, u = .slice a l.length cap ∧ l.length ≤ cap ∧ l.length ≤ maxLen ∧ OpsQ w a l := by
  obtain ⟨a, cap, e, h1, h2, h3⟩ := h
  exact ⟨a, cap, e, h1, h2, h3⟩

set_option maxRecDepth 100000 in
set_option maxHeartbeats 2000000 in
theorem qb_walk (ops : List Opn) (u : Value) (w : World) (hl : OpsIn w u ops) (hK : KnownAt w) :
    Calls Tryd.prog 6 #[u] w fun e w' => e = .returned (.bool true) ∧ Below w.heap.size w w' := by
  have hpos : 0 < w.heap.size := World.block_lt_of_cell? w ⟨0, 0 * 13 + 0, none⟩ (hK 0 0 (by decide) (by decide))
  obtain ⟨a, cap, rfl, hcap, hml, hh⟩ := opsQ_of hl
  unfold maxLen at hml
  by_cases h8 : 8 < ops.length
  · have h8' : decide (8 < (ops.length : Int)) = true := by simp; omega
    clear hl hh hK
    go_enter Tryd.func6, Tryd.ntmps6
    go_wp2
    go_ret
    exact ⟨rfl, Below.refl _ _⟩
  · have h8' : decide (8 < (ops.length : Int)) = false := by simp; omega
    have HF := hideIt (finds_any ops a cap w (by omega) hcap hh)
    have HT : Hid (∀ w1, Below w.heap.size w w1 → Calls Tryd.prog 18 #[] w1 fun e w' => e = .returned (.bool true) ∧ Below w1.heap.size w1 w') := hideIt (fun w1 hb => toldK_any w1 (hK.below hpos hb))
    have HC : Hid (∀ w1, Below w.heap.size w w1 → Calls Tryd.prog 19 #[.int .i64 4, .slice a ops.length cap, .int .i64 1000000] w1 fun e w' => JTold 4 1000000 ops w1 e w') := hideIt (fun w1 hb => check_any 4 1000000 ops _ w1 (by omega) (hl.below hb) (hK.below hpos hb))
    clear hl hh hK
    go_enter Tryd.func6, Tryd.ntmps6
    go_wp2_with fail
    refine HF.out.mono ?_
    rintro e w1 ⟨n, c, p, q, rfl, hct, hf0, hfn, hb1⟩
    have HB1 := hideIt hb1
    have HCT := hideIt hct
    have HF0 := hideIt hf0
    have HFN := hideIt hfn
    clear hb1 hct hf0 hfn HF
    by_cases hn : n = 0
    · subst hn
      rw [show toldV 0 = .nilIface from by simp [toldV]]
      have HJ := hideIt (que_just (by omega) HCT.out (HF0.out rfl))
      have HLC : Hid (LcTold 4 1000000 ops 0) := .inr (.inr ⟨rfl, by decide, by decide, que_ck HCT.out⟩)
      go_wp2_with fail
      refine (HT.out _ HB1.out).mono ?_
      rintro e w2 ⟨rfl, hb2⟩
      have HB2 := hideIt (HB1.out.trans (hb2.mono HB1.out.size))
      clear hb2
      go_wp2_with fail
      refine (HC.out _ HB2.out).mono ?_
      rintro e w3 ⟨hb3, ⟨n3, hn3, hlc, rfl⟩ | ⟨hlc, ov, rfl, ho1, ho2⟩⟩
      · exact absurd (lcTold_one hlc HLC.out) hn3
      · have hov : ∃ va vn vc, ov = .slice va vn vc := by
          rcases search_code (srB 4 ops ((1000000 : Int)).toNat) with h | h | h
          · rcases (ho1 h).2 with ⟨e, _⟩ | ⟨g, cp, cur, e, _⟩
            · exact ⟨_, _, _, e⟩
            · exact ⟨_, _, _, e⟩
          · exact ⟨_, _, _, ho2 (by omega)⟩
          · exact ⟨_, _, _, ho2 (by omega)⟩
        obtain ⟨va, vn, vc, rfl⟩ := hov
        clear ho1 ho2
        have HB3 := hideIt (HB2.out.trans (hb3.mono HB2.out.size))
        clear hb3 hlc
        have HJJ := HJ.out
        rw [show ((1000000 : Int)).toNat = 1000000 from rfl]
        generalize (searchM (srB 4 ops 1000000)).code = cc at HJJ ⊢
        obtain ⟨h12, hj⟩ := HJJ
        rcases h12 with rfl | rfl
        · have hc0 : c = 0 := hj.1 rfl
          subst hc0
          go_wp2
          go_ret
          exact ⟨by first | rfl | simp, belA HB3.out _⟩
        · have hc0 : (c == 0) = false := by
            have : c ≠ 0 := fun h => absurd (hj.2 h) (by decide)
            simp [this]
          go_wp2
          go_ret
          exact ⟨by first | rfl | simp [hc0], belA HB3.out _⟩
    · rw [show toldV n = .iface 24 (.int .i64 n) from by simp [toldV, hn]]
      obtain ⟨rfl, _, _⟩ := HFN.out hn
      go_wp2_with fail
      refine (HT.out _ HB1.out).mono ?_
      rintro e w2 ⟨rfl, hb2⟩
      have HB2 := hideIt (HB1.out.trans (hb2.mono HB1.out.size))
      clear hb2
      go_wp2_with fail
      refine (HT.out _ HB2.out).mono ?_
      rintro e w3 ⟨rfl, hb3⟩
      have HB3 := hideIt (HB2.out.trans (hb3.mono HB2.out.size))
      clear hb3
      go_wp2
      go_ret
      exact ⟨rfl, HB3.out⟩

end Go.Proofs.YtelndpbkheoeaaaDoor
