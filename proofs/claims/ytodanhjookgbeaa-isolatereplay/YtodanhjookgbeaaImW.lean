/-
  The program's checkOps and checkList's closure, walked.
-/
import Derived.Test.YtodanhjookgbeaaIkWZ
import Derived.Test.YtodanhjookgbeaaWalkAZ
import Derived.Deep.RegionHeld3
namespace Go.Proofs.Ytodanhjookgbeaa
open Go.RowKit

/-- Does one commit and write a key? -/
def makB (s : ISt) (key t : Int) : Bool := comI s t && decide (0 < wroI s t key)
set_option maxRecDepth 100000 in
theorem makes_any (s : ISt) (a b : Option Addr) (ca cb Bs Bc Bv Bk i key : Nat) (w : World) (h : StyQ w a ca b cb s) (h8 : s.txs.length ≤ 8) (hk : key < 8) (hi : i < s.txs.length) (hB : w.cell? ⟨Bs, 0, none⟩ = some (.slice a s.txs.length ca))
    (hc : w.cell? ⟨Bc, 0, none⟩ = some (.func (.func 27) #[] #[.pointer (some ⟨Bs, 0, none⟩)])) (hv : VerB w Bv (verF s)) (hkk : w.cell? ⟨Bk, 0, none⟩ = some (.int .i64 (key : Int))) :
    Calls Try.prog 41 #[.int .i64 (i : Int), .pointer (some ⟨Bc, 0, none⟩), .pointer (some ⟨Bv, 0, none⟩), .pointer (some ⟨Bk, 0, none⟩)] w fun e w' => e = .returned (.bool (makB s key i)) ∧ Below w.heap.size w w' := by
  have HC := hideIt fun n => commits_any s a b ca cb Bs i (w.drewN n) (h.below (below_drewN (Below.refl _ _) n)) hB hi
  have hat := hv.at (i := i) (j := key) (by omega) hk
  have hmk : makB s key i = (comI s i && decide (0 < verF s i key)) := rfl
  rw [hmk]
  generalize verF s i key = x at hat ⊢
  clear h hB hv hmk
  have hi' : (i : Int) < 8 := by omega
  have hk' : (key : Int) < 8 := by omega
  go_enter Try.func41, Try.ntmps41
  cases hco : comI s i
  · rw [hco] at HC
    go_wp2_with fail
    go_quiet ((go_at_call 27; exact Calls.quiet_of_same (HC.out _)))
    go_wp2
    go_ret
    exact ⟨rfl, below_drewN (Below.refl _ _) _⟩
  · rw [hco] at HC
    go_wp2_with fail
    go_quiet ((go_at_call 27; exact Calls.quiet_of_same (HC.out _)))
    go_wp2
    go_ret
    exact ⟨rfl, below_drewN (Below.refl _ _) _⟩
/-- The first fault of some ops. -/
theorem fstF_first {l : List Int} {k : Nat} (hk : k < l.length) (hn : ∀ j (h : j < l.length), j < k → l[j] = 0) (h : l[k] ≠ 0) : fstF l = l[k] := by
  have e : l = l.take k ++ l[k] :: l.drop (k + 1) := by rw [List.getElem_cons_drop, List.take_append_drop]
  have hz : fstF (l.take k) = 0 := fstF_zero.2 fun x hx => by
    obtain ⟨j, hj, e⟩ := List.getElem_of_mem hx
    rw [← e, List.getElem_take]
    rw [List.length_take] at hj
    exact hn j (by omega) (by omega)
  conv => lhs; rw [e]
  rw [fstF_app, if_pos hz]
  show (if l[k] = 0 then _ else l[k]) = l[k]
  rw [if_neg h]
theorem fstF_none {l : List Int} (hn : ∀ j (h : j < l.length), l[j] = 0) : fstF l = 0 := fstF_zero.2 fun x hx => by
  obtain ⟨j, hj, e⟩ := List.getElem_of_mem hx
  rw [← e]; exact hn j hj

set_option maxRecDepth 100000 in
set_option maxHeartbeats 4000000 in
theorem checkOps_any (s : ISt) (a b oa : Option Addr) (ca cb oc : Nat) (ops : List IOp) (w : World) (h8 : s.txs.length ≤ 8) (hm : ops.length ≤ maxLen) (ho : IOpsQ w oa ops) :
    Calls Try.prog 35 #[.agg #[.slice a s.txs.length ca, .slice b s.ord.length cb], verA (verF s), .slice oa ops.length oc] w fun e w' => e = .returned (toldV (if 60 < ops.length then 4 else fstF (ops.map (fltP s)))) ∧ Below w.heap.size w w' := by
  have HF : Hid (∀ k (hk : k < ops.length), (∀ j (h : j < ops.length), j < k → fltP s ops[j] = 0) → fltP s ops[k] ≠ 0 → fstF (ops.map (fltP s)) = fltP s ops[k]) := fun k hk hn h0 => by
    have := fstF_first (l := ops.map (fltP s)) (k := k) (by simpa using hk) (fun j h1 h2 => by simpa using hn j (by simpa using h1) h2) (by simpa using h0)
    simpa using this
  have HN : Hid ((∀ j (h : j < ops.length), fltP s ops[j] = 0) → fstF (ops.map (fltP s)) = 0) := fun hn => fstF_none fun j hj => by simpa using hn j (by simpa using hj)
  have HO := hideIt ho
  have HB : Hid (Below w.heap.size w ((w.alloc (.cells #[.slice a s.txs.length ca, .slice b s.ord.length cb] 25)).alloc (.cells (verL (verF s)).toArray 54))) := belA (belA (Below.refl _ _) _) _
  have HV : Hid (VerB ((w.alloc (.cells #[.slice a s.txs.length ca, .slice b s.ord.length cb] 25)).alloc (.cells (verL (verF s)).toArray 54)) (w.heap.size + 1) (verF s)) := by
    have := verB_new (w.alloc (.cells #[.slice a s.txs.length ca, .slice b s.ord.length cb] 25)) (verF s) 54
    rw [World.size_alloc] at this
    exact this
  have hc := cellA (o := .cells (verL (verF s)).toArray 54) (box2 w (.slice a s.txs.length ca) (.slice b s.ord.length cb) 25).1
  generalize fstF (ops.map (fltP s)) = R at *
  unfold maxLen at hm
  clear ho
  unfold verA
  go_enter Try.func35, Try.ntmps35
  by_cases h60 : 60 < ops.length
  · rw [if_pos h60]
    have h60' : (60 : Int) < ops.length := by omega
    go_wp2
    go_ret
    exact ⟨rfl, HB.out⟩
  · rw [if_neg h60]
    have h60' : ¬ (60 : Int) < ops.length := by omega
    go_wp2
    generalize hW : (w.alloc _).alloc _ = W at HB HV hc ⊢
    clear hW
    have HSz : Hid (w.heap.size + 1 < W.heap.size) := HV.out.lt
    go_loopw [15] (fun i wr => ∃ k : Nat, k ≤ ops.length ∧ i = .int .i64 k ∧ (∀ j (h : j < ops.length), j < k → fltP s ops[j] = 0) ∧ Below W.heap.size W wr) (fun i _ => ops.length - (intOf i).toNat)
    case atStart => exact ⟨0, by omega, rfl, fun j _ hj => absurd hj (by omega), Below.refl _ _⟩
    case round =>
      obtain ⟨k, hk, rfl, hz, hb⟩ := hrel
      have HZ := hideIt hz
      have HBw := hideIt hb
      clear hz hb
      by_cases hkn : k < ops.length
      · have hkn' : (k : Int) < ops.length := by omega
        obtain ⟨g, off, rfl, hg, p1, p2, p3, p4⟩ := ((HO.out.below HB.out).below HBw.out).at hkn
        have HFk : Hid (fltP s ops[k] ≠ 0 → R = fltP s ops[k]) := HF.out k hkn HZ.out
        have HZk : Hid (fltP s ops[k] = 0 → ∀ j (h : j < ops.length), j < k + 1 → fltP s ops[j] = 0) := fun h0 j hj hjk => by
          by_cases e : j = k
          · subst e; exact h0
          · exact HZ.out j hj (by omega)
        have HR : Hid (fltP s ops[k] = if ops[k].key < 0 ∨ 7 < ops[k].key ∨ ops[k].frm < -1 ∨ (s.txs.length : Int) ≤ ops[k].frm ∨ ops[k].num < 0 then 2
          else if (ops[k].wr = true ∧ (ops[k].frm ≠ 0 ∨ ops[k].num ≠ 0)) ∨ (ops[k].frm = -1 ∧ ops[k].num ≠ 0) then 1
          else if ops[k].wr = false ∧ ops[k].frm ≠ -1 ∧ (wroI s ops[k].frm ops[k].key : Int) ≤ ops[k].num then 7 else 0) := rfl
        generalize ops[k] = o at *
        obtain ⟨owr, okey, ofrm, onum⟩ := o
        have hcw := (HBw.out.cell (p := ⟨w.heap.size, 0, none⟩) (by show w.heap.size < W.heap.size; have := HSz.out; omega)).trans hc
        have HVw := hideIt (HV.out.below HBw.out HSz.out)
        have HBN : Hid (∀ ob n, Below w.heap.size w ((wr.alloc ob).drewN n)) := fun ob n => belJ HB.out (below_drewN (belA HBw.out ob) n)
        dsimp only at HR
        generalize fltP s ⟨owr, okey, ofrm, onum⟩ = f at *
        have hcw := cellA (o := .cells #[.bool owr, .int .i64 okey, .int .i64 ofrm, .int .i64 onum] 43) hcw
        have HVw := hideIt (HVw.out.alloc (.cells #[.bool owr, .int .i64 okey, .int .i64 ofrm, .int .i64 onum] 43))
        have HBN := hideIt (HBN.out (.cells #[.bool owr, .int .i64 okey, .int .i64 ofrm, .int .i64 onum] 43))
        have HBZ := hideIt (belA HBw.out (.cells #[.bool owr, .int .i64 okey, .int .i64 ofrm, .int .i64 onum] 43))
        have q0 : (wr.alloc (.cells #[.bool owr, .int .i64 okey, .int .i64 ofrm, .int .i64 onum] 43)).cell? ⟨wr.heap.size, 0, none⟩ = some (.bool owr) := by simp
        have q1 : (wr.alloc (.cells #[.bool owr, .int .i64 okey, .int .i64 ofrm, .int .i64 onum] 43)).cell? ⟨wr.heap.size, 1, none⟩ = some (.int .i64 okey) := by simp
        have q2 : (wr.alloc (.cells #[.bool owr, .int .i64 okey, .int .i64 ofrm, .int .i64 onum] 43)).cell? ⟨wr.heap.size, 2, none⟩ = some (.int .i64 ofrm) := by simp
        have q3 : (wr.alloc (.cells #[.bool owr, .int .i64 okey, .int .i64 ofrm, .int .i64 onum] 43)).cell? ⟨wr.heap.size, 3, none⟩ = some (.int .i64 onum) := by simp
        go_wp2_with fail
        refine (isKey_any _ _).mono ?_
        rintro e w1 ⟨rfl, rfl⟩
        generalize (wr.alloc _) = W1 at hcw HVw HBN HBZ q0 q1 q2 q3 ⊢
        clear HF HN HO HZ HV HB p1 p2 p3 p4 hc
        have HR2 : Hid (keyB okey = false ∨ ofrm < -1 ∨ (s.txs.length : Int) ≤ ofrm ∨ onum < 0 → f = 2) := fun hh => by
          rw [HR.out, if_pos]
          rcases hh with h1 | h1
          · have : ¬ (0 ≤ okey ∧ okey ≤ 7) := fun h2 => by rw [keyB_iff.2 h2] at h1; cases h1
            omega
          · omega
        cases hkb : keyB okey
        · have HE := hideIt (HR2.out (.inl hkb))
          clear HR HR2
          go_wp2
          go_ret
          exact ⟨by rw [HFk.out (by rw [HE.out]; decide), HE.out]; rfl, HBN.out 0⟩
        · obtain ⟨k0, k7⟩ := keyB_iff.1 hkb
          have hst : s.txs.length ≤ 8 := h8
          by_cases hf1 : ofrm < -1
          · have HE := hideIt (HR2.out (.inr (.inl hf1)))
            clear HR HR2
            go_wp2
            go_ret
            exact ⟨by rw [HFk.out (by rw [HE.out]; decide), HE.out]; rfl, HBN.out 0⟩
          · by_cases hf2 : (s.txs.length : Int) ≤ ofrm
            · have HE := hideIt (HR2.out (.inr (.inr (.inl hf2))))
              clear HR HR2
              have d1 : decide (ofrm < -1) = false := decide_eq_false hf1
              have d2 : decide ((s.txs.length : Int) ≤ ofrm) = true := decide_eq_true hf2
              go_wp2
              go_ret
              exact ⟨by rw [HFk.out (by rw [HE.out]; decide), HE.out]; rfl, HBN.out 0⟩
            · by_cases hn1 : onum < 0
              · have HE := hideIt (HR2.out (.inr (.inr (.inr hn1))))
                clear HR HR2
                go_wp2
                go_ret
                exact ⟨by rw [HFk.out (by rw [HE.out]; decide), HE.out]; rfl, HBN.out 0⟩
              · have HR3 : Hid (f = if (owr = true ∧ (ofrm ≠ 0 ∨ onum ≠ 0)) ∨ (ofrm = -1 ∧ onum ≠ 0) then 1 else if owr = false ∧ ofrm ≠ -1 ∧ (wroI s ofrm okey : Int) ≤ onum then 7 else 0) := by
                  have := HR.out
                  rw [if_neg (by omega)] at this
                  exact this
                clear HR HR2
                have d1 : decide (ofrm < -1) = false := decide_eq_false hf1
                have d2 : decide ((s.txs.length : Int) ≤ ofrm) = false := decide_eq_false hf2
                have d3 : decide (onum < 0) = false := decide_eq_false hn1
                by_cases g1 : (owr = true ∧ (ofrm ≠ 0 ∨ onum ≠ 0)) ∨ (ofrm = -1 ∧ onum ≠ 0)
                · have HE : Hid (f = 1) := by rw [HR3.out, if_pos g1]; rfl
                  clear HR3
                  cases owr
                  · have g2 : ofrm = -1 ∧ onum ≠ 0 := by rcases g1 with h | h; exact absurd h.1 (by simp); exact h
                    obtain ⟨rfl, hn2⟩ := g2
                    have e1 : (onum != 0) = true := by simp [hn2]
                    go_wp2
                    go_ret
                    exact ⟨by rw [HFk.out (by rw [HE.out]; decide), HE.out]; rfl, HBN.out 0⟩
                  · by_cases hf0 : ofrm = 0
                    · have hn2 : onum ≠ 0 := by rcases g1 with h | h; rcases h.2 with h | h; exact absurd hf0 h; exact h; exact h.2
                      have e1 : (onum != 0) = true := by simp [hn2]
                      have e2 : (ofrm != 0) = false := by simp [hf0]
                      clear hf0
                      go_wp2
                      go_ret
                      exact ⟨by rw [HFk.out (by rw [HE.out]; decide), HE.out]; rfl, HBN.out 0⟩
                    · have e1 : (ofrm != 0) = true := by simp [hf0]
                      go_wp2
                      go_ret
                      exact ⟨by rw [HFk.out (by rw [HE.out]; decide), HE.out]; rfl, HBN.out 0⟩
                · have HE : Hid (f = if owr = false ∧ ofrm ≠ -1 ∧ (wroI s ofrm okey : Int) ≤ onum then 7 else 0) := by rw [HR3.out, if_neg g1]; rfl
                  clear HR3
                  cases owr
                  · by_cases hf0 : ofrm = -1
                    · have hn2 : onum = 0 := Classical.byContradiction fun h => g1 (.inr ⟨hf0, h⟩)
                      subst hf0 hn2
                      have HE : Hid (f = 0) := by rw [HE.out, if_neg (by simp)]; rfl
                      clear g1
                      go_wp2_with fail
                      go_quiet (fail)
                      go_wp2
                      go_roundw
                      case rel => exact ⟨k + 1, by omega, by go_num, HZk.out HE.out, below_drewN HBZ.out _⟩
                      case measure => simp [intOf]; omega
                    · have e1 : (ofrm == -1) = false := by simp [hf0]
                      have e2 : (ofrm != -1) = true := by simp [hf0]
                      obtain ⟨fr, rfl⟩ := Int.eq_ofNat_of_zero_le (show 0 ≤ ofrm by omega)
                      obtain ⟨ky, rfl⟩ := Int.eq_ofNat_of_zero_le k0
                      have hat := HVw.out.at (i := fr) (j := ky) (by omega) (by omega)
                      have HE2 : Hid (f = if (verF s fr ky : Int) ≤ onum then 7 else 0) := by
                        rw [HE.out]
                        by_cases h : (verF s fr ky : Int) ≤ onum
                        · rw [if_pos h, if_pos ⟨rfl, hf0, h⟩]; rfl
                        · rw [if_neg h, if_neg (fun h' => h h'.2.2)]; rfl
                      clear g1 hf0 HE
                      generalize verF s fr ky = x at *
                      have hfr8 : (fr : Int) < 8 := by omega
                      have hky8 : (ky : Int) < 8 := by omega
                      by_cases hx : (x : Int) ≤ onum
                      · have HE : Hid (f = 7) := by rw [HE2.out, if_pos hx]; rfl
                        have e3 : decide ((x : Int) ≤ onum) = true := decide_eq_true hx
                        go_wp2_with fail
                        go_quiet (fail)
                        go_wp2
                        go_ret
                        exact ⟨by rw [HFk.out (by rw [HE.out]; decide), HE.out]; rfl, HBN.out _⟩
                      · have HE : Hid (f = 0) := by rw [HE2.out, if_neg hx]; rfl
                        have e3 : decide ((x : Int) ≤ onum) = false := decide_eq_false hx
                        go_wp2_with fail
                        go_quiet (fail)
                        go_wp2
                        go_roundw
                        case rel => exact ⟨k + 1, by omega, by go_num, HZk.out HE.out, below_drewN HBZ.out _⟩
                        case measure => simp [intOf]; omega
                  · have hf0 : ofrm = 0 := Classical.byContradiction fun h => g1 (.inl ⟨rfl, .inl h⟩)
                    have hn2 : onum = 0 := Classical.byContradiction fun h => g1 (.inl ⟨rfl, .inr h⟩)
                    have HE3 : Hid (f = 0) := by rw [HE.out, if_neg (by simp)]; rfl
                    clear HE
                    have HE := HE3
                    have e1 : (onum != 0) = false := by simp [hn2]
                    have e2 : (ofrm != 0) = false := by simp [hf0]
                    have e3 : (ofrm == -1) = false := by simp [hf0]
                    clear g1 hf0 hn2 HE3
                    go_wp2_with fail
                    go_quiet (fail)
                    go_wp2
                    go_roundw
                    case rel => exact ⟨k + 1, by omega, by go_num, HZk.out HE.out, below_drewN HBZ.out _⟩
                    case measure => simp [intOf]; omega
      · have HE := hideIt (HN.out fun j hj => HZ.out j hj (by omega))
        have HBE := hideIt (belJ HB.out HBw.out)
        clear HF HN HO HZ HV HB HBw
        go_wp2
        go_ret
        exact ⟨by rw [HE.out]; rfl, HBE.out⟩
end Go.Proofs.Ytodanhjookgbeaa
