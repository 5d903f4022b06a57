/-
  The program's checkOps and checkList's closure, walked.
  The program's checkList, walked.
  The program's Check of a story, walked.
-/
import Derived.Test.YtaopigjhdkdklaaDoorIkWZ
import Derived.Test.YtaopigjhdkdklaaDoorWalkAZ
import Derived.Deep.RegionHeld3
import Derived.Laws.EntriesVeiled
import Derived.Deep.CutBlock
import Derived.Deep.DeepCutAuto
namespace Go.Proofs.YtaopigjhdkdklaaDoor
open Go.RowKit

/-- Does one commit and write a key? -/
def makB (s : ISt) (key t : Int) : Bool := comI s t && decide (0 < wroI s t key)
set_option maxRecDepth 100000 in
theorem makes_any (s : ISt) (a b : Option Addr) (ca cb Bs Bc Bv Bk i key : Nat) (w : World) (h : StyQ w a ca b cb s) (h8 : s.txs.length ≤ 8) (hk : key < 8) (hi : i < s.txs.length) (hB : w.cell? ⟨Bs, 0, none⟩ = some (.slice a s.txs.length ca))
    (hc : w.cell? ⟨Bc, 0, none⟩ = some (.func (.func 61) #[] #[.pointer (some ⟨Bs, 0, none⟩)])) (hv : VerB w Bv (verF s)) (hkk : w.cell? ⟨Bk, 0, none⟩ = some (.int .i64 (key : Int))) :
    Calls Tryd.prog 84 #[.int .i64 (i : Int), .pointer (some ⟨Bc, 0, none⟩), .pointer (some ⟨Bv, 0, none⟩), .pointer (some ⟨Bk, 0, none⟩)] w fun e w' => e = .returned (.bool (makB s key i)) ∧ Below w.heap.size w w' := by
  have HC := hideIt fun n => commits_any s a b ca cb Bs i (w.drewN n) (h.below (below_drewN (Below.refl _ _) n)) hB hi
  have hat := hv.at (i := i) (j := key) (by omega) hk
  have hmk : makB s key i = (comI s i && decide (0 < verF s i key)) := rfl
  rw [hmk]
  generalize verF s i key = x at hat ⊢
  clear h hB hv hmk
  have hi' : (i : Int) < 8 := by omega
  have hk' : (key : Int) < 8 := by omega
  go_enter Tryd.func84, Tryd.ntmps84
  cases hco : comI s i
  · rw [hco] at HC
    go_wp2_with fail
    go_quiet ((go_at_call 61; exact Calls.quiet_of_same (HC.out _)))
    go_wp2
    go_ret
    exact ⟨rfl, below_drewN (Below.refl _ _) _⟩
  · rw [hco] at HC
    go_wp2_with fail
    go_quiet ((go_at_call 61; exact Calls.quiet_of_same (HC.out _)))
    go_wp2
    go_ret
    exact ⟨rfl, below_drewN (Below.refl _ _) _⟩
/-- The first fault of some ops. -/
theorem fstF_first {l : List Int} {k : Nat} (hk : k < l.length) (hn : ∀ j (h : j < l.length), j < k → l[j] = 0) (h : l[k] ≠ 0) : fstF l = l[k] := by
  have e : l = l.take k ++ l[k] :: l.drop (k + 1) := by rw [List.getElem_cons_drop, List.take_append_drop]
  have hz : fstF (l.take k) = 0 := fstF_zero.2 fun x hx => by
    obtain ⟨j, hj, e⟩ := List.getElem_of_mem hx
    rw [← e, List.getElem_take]
    rw [List.length_take] at hj
    exact hn j (by omega) (by omega)
  conv => lhs; rw [e]
  rw [fstF_app, if_pos hz]
  show (if l[k] = 0 then _ else l[k]) = l[k]
  rw [if_neg h]
theorem fstF_none {l : List Int} (hn : ∀ j (h : j < l.length), l[j] = 0) : fstF l = 0 := fstF_zero.2 fun x hx => by
  obtain ⟨j, hj, e⟩ := List.getElem_of_mem hx
  rw [← e]; exact hn j hj

set_option maxRecDepth 100000 in
set_option maxHeartbeats 4000000 in
theorem checkOps_any (s : ISt) (a b oa : Option Addr) (ca cb oc : Nat) (ops : List IOp) (w : World) (h8 : s.txs.length ≤ 8) (hm : ops.length ≤ maxLen) (ho : IOpsQ w oa ops) :
    Calls Tryd.prog 69 #[.agg #[.slice a s.txs.length ca, .slice b s.ord.length cb], verA (verF s), .slice oa ops.length oc] w fun e w' => e = .returned (toldV (if 60 < ops.length then 4 else fstF (ops.map (fltP s)))) ∧ Below w.heap.size w w' := by
  have HF : Hid (∀ k (hk : k < ops.length), (∀ j (h : j < ops.length), j < k → fltP s ops[j] = 0) → fltP s ops[k] ≠ 0 → fstF (ops.map (fltP s)) = fltP s ops[k]) := fun k hk hn h0 => by
    have := fstF_first (l := ops.map (fltP s)) (k := k) (by simpa using hk) (fun j h1 h2 => by simpa using hn j (by simpa using h1) h2) (by simpa using h0)
    simpa using this
  have HN : Hid ((∀ j (h : j < ops.length), fltP s ops[j] = 0) → fstF (ops.map (fltP s)) = 0) := fun hn => fstF_none fun j hj => by simpa using hn j (by simpa using hj)
  have HO := hideIt ho
  have HB : Hid (Below w.heap.size w ((w.alloc (.cells #[.slice a s.txs.length ca, .slice b s.ord.length cb] 44)).alloc (.cells (verL (verF s)).toArray 104))) := belA (belA (Below.refl _ _) _) _
  have HV : Hid (VerB ((w.alloc (.cells #[.slice a s.txs.length ca, .slice b s.ord.length cb] 44)).alloc (.cells (verL (verF s)).toArray 104)) (w.heap.size + 1) (verF s)) := by
    have := verB_new (w.alloc (.cells #[.slice a s.txs.length ca, .slice b s.ord.length cb] 44)) (verF s) 104
    rw [World.size_alloc] at this
    exact this
  have hc := cellA (o := .cells (verL (verF s)).toArray 104) (box2 w (.slice a s.txs.length ca) (.slice b s.ord.length cb) 44).1
  generalize fstF (ops.map (fltP s)) = R at *
  unfold maxLen at hm
  clear ho
  unfold verA
  go_enter Tryd.func69, Tryd.ntmps69
  by_cases h60 : 60 < ops.length
  · rw [if_pos h60]
    have h60' : (60 : Int) < ops.length := by omega
    go_wp2
    go_ret
    exact ⟨rfl, HB.out⟩
  · rw [if_neg h60]
    have h60' : ¬ (60 : Int) < ops.length := by omega
    go_wp2
    generalize hW : (w.alloc _).alloc _ = W at HB HV hc ⊢
    clear hW
    have HSz : Hid (w.heap.size + 1 < W.heap.size) := HV.out.lt
    go_loopw [15] (fun i wr => ∃ k : Nat, k ≤ ops.length ∧ i = .int .i64 k ∧ (∀ j (h : j < ops.length), j < k → fltP s ops[j] = 0) ∧ Below W.heap.size W wr) (fun i _ => ops.length - (intOf i).toNat)
    case atStart => exact ⟨0, by omega, rfl, fun j _ hj => absurd hj (by omega), Below.refl _ _⟩
    case round =>
      obtain ⟨k, hk, rfl, hz, hb⟩ := hrel
      have HZ := hideIt hz
      have HBw := hideIt hb
      clear hz hb
      by_cases hkn : k < ops.length
      · have hkn' : (k : Int) < ops.length := by omega
        obtain ⟨g, off, rfl, hg, p1, p2, p3, p4⟩ := ((HO.out.below HB.out).below HBw.out).at hkn
        have HFk : Hid (fltP s ops[k] ≠ 0 → R = fltP s ops[k]) := HF.out k hkn HZ.out
        have HZk : Hid (fltP s ops[k] = 0 → ∀ j (h : j < ops.length), j < k + 1 → fltP s ops[j] = 0) := fun h0 j hj hjk => by
          by_cases e : j = k
          · subst e; exact h0
          · exact HZ.out j hj (by omega)
        have HR : Hid (fltP s ops[k] = if ops[k].key < 0 ∨ 7 < ops[k].key ∨ ops[k].frm < -1 ∨ (s.txs.length : Int) ≤ ops[k].frm ∨ ops[k].num < 0 then 2
          else if (ops[k].wr = true ∧ (ops[k].frm ≠ 0 ∨ ops[k].num ≠ 0)) ∨ (ops[k].frm = -1 ∧ ops[k].num ≠ 0) then 1
          else if ops[k].wr = false ∧ ops[k].frm ≠ -1 ∧ (wroI s ops[k].frm ops[k].key : Int) ≤ ops[k].num then 7 else 0) := rfl
        generalize ops[k] = o at *
        obtain ⟨owr, okey, ofrm, onum⟩ := o
        have hcw := (HBw.out.cell (p := ⟨w.heap.size, 0, none⟩) (by show w.heap.size < W.heap.size; have := HSz.out; omega)).trans hc
        have HVw := hideIt (HV.out.below HBw.out HSz.out)
        have HBN : Hid (∀ ob n, Below w.heap.size w ((wr.alloc ob).drewN n)) := fun ob n => belJ HB.out (below_drewN (belA HBw.out ob) n)
        dsimp only at HR
        generalize fltP s ⟨owr, okey, ofrm, onum⟩ = f at *
        have hcw := cellA (o := .cells #[.bool owr, .int .i64 okey, .int .i64 ofrm, .int .i64 onum] 84) hcw
        have HVw := hideIt (HVw.out.alloc (.cells #[.bool owr, .int .i64 okey, .int .i64 ofrm, .int .i64 onum] 84))
        have HBN := hideIt (HBN.out (.cells #[.bool owr, .int .i64 okey, .int .i64 ofrm, .int .i64 onum] 84))
        have HBZ := hideIt (belA HBw.out (.cells #[.bool owr, .int .i64 okey, .int .i64 ofrm, .int .i64 onum] 84))
        have q0 : (wr.alloc (.cells #[.bool owr, .int .i64 okey, .int .i64 ofrm, .int .i64 onum] 84)).cell? ⟨wr.heap.size, 0, none⟩ = some (.bool owr) := by simp
        have q1 : (wr.alloc (.cells #[.bool owr, .int .i64 okey, .int .i64 ofrm, .int .i64 onum] 84)).cell? ⟨wr.heap.size, 1, none⟩ = some (.int .i64 okey) := by simp
        have q2 : (wr.alloc (.cells #[.bool owr, .int .i64 okey, .int .i64 ofrm, .int .i64 onum] 84)).cell? ⟨wr.heap.size, 2, none⟩ = some (.int .i64 ofrm) := by simp
        have q3 : (wr.alloc (.cells #[.bool owr, .int .i64 okey, .int .i64 ofrm, .int .i64 onum] 84)).cell? ⟨wr.heap.size, 3, none⟩ = some (.int .i64 onum) := by simp
        go_wp2_with fail
        refine (isKey_any _ _).mono ?_
        rintro e w1 ⟨rfl, rfl⟩
        generalize (wr.alloc _) = W1 at hcw HVw HBN HBZ q0 q1 q2 q3 ⊢
        clear HF HN HO HZ HV HB p1 p2 p3 p4 hc
        have HR2 : Hid (keyB okey = false ∨ ofrm < -1 ∨ (s.txs.length : Int) ≤ ofrm ∨ onum < 0 → f = 2) := fun hh => by
          rw [HR.out, if_pos]
          rcases hh with h1 | h1
          · have : ¬ (0 ≤ okey ∧ okey ≤ 7) := fun h2 => by rw [keyB_iff.2 h2] at h1; cases h1
            omega
          · omega
        cases hkb : keyB okey
        · have HE := hideIt (HR2.out (.inl hkb))
          clear HR HR2
          go_wp2
          go_ret
          exact ⟨by rw [HFk.out (by rw [HE.out]; decide), HE.out]; rfl, HBN.out 0⟩
        · obtain ⟨k0, k7⟩ := keyB_iff.1 hkb
          have hst : s.txs.length ≤ 8 := h8
          by_cases hf1 : ofrm < -1
          · have HE := hideIt (HR2.out (.inr (.inl hf1)))
            clear HR HR2
            go_wp2
            go_ret
            exact ⟨by rw [HFk.out (by rw [HE.out]; decide), HE.out]; rfl, HBN.out 0⟩
          · by_cases hf2 : (s.txs.length : Int) ≤ ofrm
            · have HE := hideIt (HR2.out (.inr (.inr (.inl hf2))))
              clear HR HR2
              have d1 : decide (ofrm < -1) = false := decide_eq_false hf1
              have d2 : decide ((s.txs.length : Int) ≤ ofrm) = true := decide_eq_true hf2
              go_wp2
              go_ret
              exact ⟨by rw [HFk.out (by rw [HE.out]; decide), HE.out]; rfl, HBN.out 0⟩
            · by_cases hn1 : onum < 0
              · have HE := hideIt (HR2.out (.inr (.inr (.inr hn1))))
                clear HR HR2
                go_wp2
                go_ret
                exact ⟨by rw [HFk.out (by rw [HE.out]; decide), HE.out]; rfl, HBN.out 0⟩
              · have HR3 : Hid (f = if (owr = true ∧ (ofrm ≠ 0 ∨ onum ≠ 0)) ∨ (ofrm = -1 ∧ onum ≠ 0) then 1 else if owr = false ∧ ofrm ≠ -1 ∧ (wroI s ofrm okey : Int) ≤ onum then 7 else 0) := by
                  have := HR.out
                  rw [if_neg (by omega)] at this
                  exact this
                clear HR HR2
                have d1 : decide (ofrm < -1) = false := decide_eq_false hf1
                have d2 : decide ((s.txs.length : Int) ≤ ofrm) = false := decide_eq_false hf2
                have d3 : decide (onum < 0) = false := decide_eq_false hn1
                by_cases g1 : (owr = true ∧ (ofrm ≠ 0 ∨ onum ≠ 0)) ∨ (ofrm = -1 ∧ onum ≠ 0)
                · have HE : Hid (f = 1) := by rw [HR3.out, if_pos g1]; rfl
                  clear HR3
                  cases owr
                  · have g2 : ofrm = -1 ∧ onum ≠ 0 := by rcases g1 with h | h; exact absurd h.1 (by simp); exact h
                    obtain ⟨rfl, hn2⟩ := g2
                    have e1 : (onum != 0) = true := by simp [hn2]
                    go_wp2
                    go_ret
                    exact ⟨by rw [HFk.out (by rw [HE.out]; decide), HE.out]; rfl, HBN.out 0⟩
                  · by_cases hf0 : ofrm = 0
                    · have hn2 : onum ≠ 0 := by rcases g1 with h | h; rcases h.2 with h | h; exact absurd hf0 h; exact h; exact h.2
                      have e1 : (onum != 0) = true := by simp [hn2]
                      have e2 : (ofrm != 0) = false := by simp [hf0]
                      clear hf0
                      go_wp2
                      go_ret
                      exact ⟨by rw [HFk.out (by rw [HE.out]; decide), HE.out]; rfl, HBN.out 0⟩
                    · have e1 : (ofrm != 0) = true := by simp [hf0]
                      go_wp2
                      go_ret
                      exact ⟨by rw [HFk.out (by rw [HE.out]; decide), HE.out]; rfl, HBN.out 0⟩
                · have HE : Hid (f = if owr = false ∧ ofrm ≠ -1 ∧ (wroI s ofrm okey : Int) ≤ onum then 7 else 0) := by rw [HR3.out, if_neg g1]; rfl
                  clear HR3
                  cases owr
                  · by_cases hf0 : ofrm = -1
                    · have hn2 : onum = 0 := Classical.byContradiction fun h => g1 (.inr ⟨hf0, h⟩)
                      subst hf0 hn2
                      have HE : Hid (f = 0) := by rw [HE.out, if_neg (by simp)]; rfl
                      clear g1
                      go_wp2_with fail
                      go_quiet (fail)
                      go_wp2
                      go_roundw
                      case rel => exact ⟨k + 1, by omega, by go_num, HZk.out HE.out, below_drewN HBZ.out _⟩
                      case measure => simp [intOf]; omega
                    · have e1 : (ofrm == -1) = false := by simp [hf0]
                      have e2 : (ofrm != -1) = true := by simp [hf0]
                      obtain ⟨fr, rfl⟩ := Int.eq_ofNat_of_zero_le (show 0 ≤ ofrm by omega)
                      obtain ⟨ky, rfl⟩ := Int.eq_ofNat_of_zero_le k0
                      have hat := HVw.out.at (i := fr) (j := ky) (by omega) (by omega)
                      have HE2 : Hid (f = if (verF s fr ky : Int) ≤ onum then 7 else 0) := by
                        rw [HE.out]
                        by_cases h : (verF s fr ky : Int) ≤ onum
                        · rw [if_pos h, if_pos ⟨rfl, hf0, h⟩]; rfl
                        · rw [if_neg h, if_neg (fun h' => h h'.2.2)]; rfl
                      clear g1 hf0 HE
                      generalize verF s fr ky = x at *
                      have hfr8 : (fr : Int) < 8 := by omega
                      have hky8 : (ky : Int) < 8 := by omega
                      by_cases hx : (x : Int) ≤ onum
                      · have HE : Hid (f = 7) := by rw [HE2.out, if_pos hx]; rfl
                        have e3 : decide ((x : Int) ≤ onum) = true := decide_eq_true hx
                        go_wp2_with fail
                        go_quiet (fail)
                        go_wp2
                        go_ret
                        exact ⟨by rw [HFk.out (by rw [HE.out]; decide), HE.out]; rfl, HBN.out _⟩
                      · have HE : Hid (f = 0) := by rw [HE2.out, if_neg hx]; rfl
                        have e3 : decide ((x : Int) ≤ onum) = false := decide_eq_false hx
                        go_wp2_with fail
                        go_quiet (fail)
                        go_wp2
                        go_roundw
                        case rel => exact ⟨k + 1, by omega, by go_num, HZk.out HE.out, below_drewN HBZ.out _⟩
                        case measure => simp [intOf]; omega
                  · have hf0 : ofrm = 0 := Classical.byContradiction fun h => g1 (.inl ⟨rfl, .inl h⟩)
                    have hn2 : onum = 0 := Classical.byContradiction fun h => g1 (.inl ⟨rfl, .inr h⟩)
                    have HE3 : Hid (f = 0) := by rw [HE.out, if_neg (by simp)]; rfl
                    clear HE
                    have HE := HE3
                    have e1 : (onum != 0) = false := by simp [hn2]
                    have e2 : (ofrm != 0) = false := by simp [hf0]
                    have e3 : (ofrm == -1) = false := by simp [hf0]
                    clear g1 hf0 hn2 HE3
                    go_wp2_with fail
                    go_quiet (fail)
                    go_wp2
                    go_roundw
                    case rel => exact ⟨k + 1, by omega, by go_num, HZk.out HE.out, below_drewN HBZ.out _⟩
                    case measure => simp [intOf]; omega
      · have HE := hideIt (HN.out fun j hj => HZ.out j hj (by omega))
        have HBE := hideIt (belJ HB.out HBw.out)
        clear HF HN HO HZ HV HB HBw
        go_wp2
        go_ret
        exact ⟨by rw [HE.out]; rfl, HBE.out⟩
end Go.Proofs.YtaopigjhdkdklaaDoor

namespace Go.Proofs.YtaopigjhdkdklaaDoor
open Go.RowKit

/-- How many of the first transactions commit and write a key. -/
def makN (s : ISt) (key : Int) (n : Nat) : Nat := ((List.range n).filter fun (i : Nat) => makB s key i).length
theorem makN_succ (s : ISt) (key : Int) (n : Nat) : makN s key (n + 1) = makN s key n + if makB s key n = true then 1 else 0 := by
  unfold makN
  rw [List.range_succ, List.filter_append, List.length_append]
  congr 1
  by_cases h : makB s key (n : Int) = true
  · simp [h]
  · simp [h]
theorem makN_all (s : ISt) (key : Int) : makN s key s.txs.length = cntK s key := (cntK_eq s key).symm
theorem makN_le (s : ISt) (key : Int) (n : Nat) : makN s key n ≤ n := by
  unfold makN
  exact Nat.le_trans (List.length_filter_le _ _) (by simp)
theorem lstK_at {s : ISt} {key : Nat} (h : key < s.ord.length) : lstK s (key : Int) = s.ord[key] := by
  unfold lstK
  rw [Int.toNat_natCast, List.getD_eq_getElem?_getD, List.getElem?_eq_getElem h]
  rfl
theorem fltK_at {s : ISt} {key k : Nat} (hk : k < (lstK s (key : Int)).length) (hn : ∀ j, j < k → fltE s key (lstK s key) j = 0) (h : fltE s key (lstK s key) k ≠ 0) : fltK s key = fltE s key (lstK s key) k := by
  unfold fltK
  have := fstF_first (l := (List.range (lstK s key).length).map (fltE s key (lstK s key)) ++ [if cntK s key = (lstK s key).length then 0 else 3]) (k := k) (by simp; omega)
    (fun j h1 h2 => by rw [List.getElem_append_left (by simp; omega)]; simpa using hn j h2) (by rw [List.getElem_append_left (by simpa using hk)]; simpa using h)
  rw [this, List.getElem_append_left (by simpa using hk)]
  simp
theorem fltK_end {s : ISt} {key : Nat} (hn : ∀ j, j < (lstK s (key : Int)).length → fltE s key (lstK s key) j = 0) : fltK s key = if cntK s key = (lstK s key).length then 0 else 3 := by
  unfold fltK
  rw [fstF_app, if_pos (fstF_none fun j hj => by simpa using hn j (by simpa using hj))]
  by_cases h : cntK s key = (lstK s key).length
  · simp [fstF, h]
  · simp [fstF, h]

theorem box1 (w : World) (x : Value) (t : TypeId) : (w.alloc (.cells #[x] t)).cell? ⟨w.heap.size, 0, none⟩ = some x := by
  rw [cell_of_row _ _ _ _ t _ (heap_alloc_new w _)]
  rfl

set_option maxRecDepth 100000 in
set_option maxHeartbeats 4000000 in
theorem checkList_any (s : ISt) (a b : Option Addr) (ca cb key : Nat) (w : World) (h : StyQ w a ca b cb s) (h8 : s.txs.length ≤ 8) (hk8 : key < 8) (hko : key < s.ord.length) :
    Calls Tryd.prog 70 #[.agg #[.slice a s.txs.length ca, .slice b s.ord.length cb], verA (verF s), .int .i64 (key : Int)] w fun e w' => e = .returned (toldV (fltK s key)) ∧ Below w.heap.size w w' := by
  obtain ⟨gb, ob, rfl, hgb, la, lc, l1, l2, l3, l4⟩ := h.row hko
  have HS := hideIt h
  have HL := hideIt l4
  have HAt : Hid (∀ k, k < (lstK s (key : Int)).length → (∀ j, j < k → fltE s key (lstK s key) j = 0) → fltE s key (lstK s key) k ≠ 0 → fltK s key = fltE s key (lstK s key) k) := fun k hk => fltK_at hk
  have HEnd : Hid ((∀ j, j < (lstK s (key : Int)).length → fltE s key (lstK s key) j = 0) → fltK s key = if cntK s key = (lstK s key).length then 0 else 3) := fltK_end
  have HLst := hideIt (lstK_at hko)
  generalize s.ord[key] = L at *
  rw [HLst.out] at HAt HEnd
  clear HLst
  have HV : Hid (VerB (((w.alloc (.cells #[.slice a s.txs.length ca, .slice (some ⟨gb, ob, none⟩) s.ord.length cb] 44)).alloc (.cells (verL (verF s)).toArray 104)).alloc (.cells #[.int .i64 (key : Int)] 3)) (w.heap.size + 1) (verF s)) := by
    have := (verB_new (w.alloc (.cells #[.slice a s.txs.length ca, .slice (some ⟨gb, ob, none⟩) s.ord.length cb] 44)) (verF s) 104).alloc (.cells #[.int .i64 (key : Int)] 3)
    rw [World.size_alloc] at this
    exact this
  have HB : Hid (Below w.heap.size w (((w.alloc (.cells #[.slice a s.txs.length ca, .slice (some ⟨gb, ob, none⟩) s.ord.length cb] 44)).alloc (.cells (verL (verF s)).toArray 104)).alloc (.cells #[.int .i64 (key : Int)] 3))) := belA (belA (belA (Below.refl _ _) _) _) _
  have c0 := cellA (o := .cells #[.int .i64 (key : Int)] 3) (cellA (o := .cells (verL (verF s)).toArray 104) (box2 w (.slice a s.txs.length ca) (.slice (some ⟨gb, ob, none⟩) s.ord.length cb) 44).1)
  have c1 := cellA (o := .cells #[.int .i64 (key : Int)] 3) (cellA (o := .cells (verL (verF s)).toArray 104) (box2 w (.slice a s.txs.length ca) (.slice (some ⟨gb, ob, none⟩) s.ord.length cb) 44).2)
  have c2 := box1 ((w.alloc (.cells #[.slice a s.txs.length ca, .slice (some ⟨gb, ob, none⟩) s.ord.length cb] 44)).alloc (.cells (verL (verF s)).toArray 104)) (.int .i64 (key : Int)) 3
  simp only [World.size_alloc] at c2
  unfold maxLen at l3
  clear h l4
  have hko' : (key : Int) < s.ord.length := by omega
  unfold verA
  go_enter Tryd.func70, Tryd.ntmps70
  go_wp2
  generalize hW : ((w.alloc _).alloc _).alloc _ = W at HV HB c0 c1 c2 ⊢
  clear hW
  have l1 := (HB.out.cell (p := ⟨gb, ob + key, none⟩) hgb).trans l1
  have HSz : Hid (w.heap.size + 1 + 1 < W.heap.size) := World.block_lt_of_cell? W _ c2
  go_upto_region 1 with fail
  go_cut [7, 8] from 14 to 20 (fun x y wx => ∃ Bc Bs, x = .pointer (some ⟨Bc, 0, none⟩) ∧ y = .slice la L.length lc ∧ wx.cell? ⟨Bc, 0, none⟩ = some (.func (.func 61) #[] #[.pointer (some ⟨Bs, 0, none⟩)]) ∧ wx.cell? ⟨Bs, 0, none⟩ = some (.slice a s.txs.length ca) ∧ Below W.heap.size W wx)
  case first =>
    have HX : Hid (∀ Z, Below W.heap.size W Z → Z.cell? ⟨w.heap.size, 0, none⟩ = some (.slice a s.txs.length ca) ∧ Z.cell? ⟨w.heap.size, 1, none⟩ = some (.slice (some ⟨gb, ob, none⟩) s.ord.length cb) ∧ Z.cell? ⟨w.heap.size + 1 + 1, 0, none⟩ = some (.int .i64 (key : Int)) ∧ Z.cell? ⟨gb, ob + key, none⟩ = some (.slice la L.length lc)) := fun Z hZ => by
      have s2 := HSz.out
      exact ⟨(hZ.cell (p := ⟨w.heap.size, 0, none⟩) (by show w.heap.size < W.heap.size; omega)).trans c0, (hZ.cell (p := ⟨w.heap.size, 1, none⟩) (by show w.heap.size < W.heap.size; omega)).trans c1, (hZ.cell (p := ⟨w.heap.size + 1 + 1, 0, none⟩) s2).trans c2, (hZ.cell (p := ⟨gb, ob + key, none⟩) (by show gb < W.heap.size; omega)).trans l1⟩
    clear c0 c1 c2 l1
    refine wp_region_held_drew (S := (fun w' => Below W.heap.size W w')) (by kernel_rfl) (Below.refl _ _).drew (fun hHeld => ?_)
    refine wpAnyH_take (i := 0) (v := ?_) rfl (by kernel_rfl) (by kernel_rfl) (by kernel_rfl) (fun _ _ _ h => h) (Or.inl ⟨by rfl, ?_⟩) (by assumption) ?_
    rotate_left 1
    · intro wz sb
      obtain ⟨y0, y1, y2, y3⟩ := HX.out wz sb
      go_simp
      all_goals with_reducible rfl
    simp only [Act.put, List.setIfInBounds_toArray, List.set_cons_zero, List.set_cons_succ, List.getElem_toArray, List.getElem_cons_zero]
    refine wpAnyH_take (i := 2) (v := ?_) rfl (by kernel_rfl) (by kernel_rfl) (by kernel_rfl) (fun _ _ _ h => h) (Or.inl ⟨by rfl, ?_⟩) (by assumption) ?_
    rotate_left 1
    · intro wz sb
      obtain ⟨y0, y1, y2, y3⟩ := HX.out wz sb
      go_simp
      all_goals with_reducible rfl
    simp only [Act.put, List.setIfInBounds_toArray, List.set_cons_zero, List.set_cons_succ, List.getElem_toArray, List.getElem_cons_zero, List.getElem_cons_succ]
    refine wpAnyH_take (i := 3) (v := ?_) rfl (by kernel_rfl) (by kernel_rfl) (by kernel_rfl) (fun _ _ _ h => h) (Or.inl ⟨by rfl, ?_⟩) (by assumption) ?_
    rotate_left 1
    · intro wz sb
      obtain ⟨y0, y1, y2, y3⟩ := HX.out wz sb
      go_simp
      all_goals with_reducible rfl
    simp only [Act.put, List.setIfInBounds_toArray, List.set_cons_zero, List.set_cons_succ, List.getElem_toArray, List.getElem_cons_zero, List.getElem_cons_succ]
    refine wpAnyH_take (i := 4) (v := ?_) rfl (by kernel_rfl) (by kernel_rfl) (by kernel_rfl) (fun _ _ _ h => h) (Or.inl ⟨by rfl, ?_⟩) (by assumption) ?_
    rotate_left 1
    · intro wz sb
      obtain ⟨y0, y1, y2, y3⟩ := HX.out wz sb
      go_simp
      all_goals with_reducible rfl
    simp only [Act.put, List.setIfInBounds_toArray, List.set_cons_zero, List.set_cons_succ, List.getElem_toArray, List.getElem_cons_zero, List.getElem_cons_succ]
    refine wpAnyH_take (i := 5) (v := ?_) rfl (by kernel_rfl) (by kernel_rfl) (by kernel_rfl) (fun _ _ _ h => h) (Or.inl ⟨by rfl, ?_⟩) (by assumption) ?_
    rotate_left 1
    · intro wz sb
      obtain ⟨y0, y1, y2, y3⟩ := HX.out wz sb
      go_simp
      all_goals with_reducible rfl
    simp only [Act.put, List.setIfInBounds_toArray, List.set_cons_zero, List.set_cons_succ, List.getElem_toArray, List.getElem_cons_zero, List.getElem_cons_succ]
    refine wpAnyH_take (i := 6) (v := ?_) rfl (by kernel_rfl) (by kernel_rfl) (by kernel_rfl) (fun _ _ _ h => h) (Or.inl ⟨by rfl, ?_⟩) (by assumption) ?_
    rotate_left 1
    · intro wz sb
      obtain ⟨y0, y1, y2, y3⟩ := HX.out wz sb
      go_simp
      all_goals with_reducible rfl
    simp only [Act.put, List.setIfInBounds_toArray, List.set_cons_zero, List.set_cons_succ, List.getElem_toArray, List.getElem_cons_zero, List.getElem_cons_succ]
    refine wpAnyH_ready (rs := [1, 7]) (by kernel_rfl) (by simp) (AllReadyH.cons rfl (fun K hK => ?_) (AllReadyH.cons rfl (fun K hK => ?_) AllReadyH.nil))
    · go_simp
      refine (committing_any _ a (some ⟨gb, ob, none⟩) s.txs.length ca s.ord.length cb _ rfl).mono ?_
      rintro e w6 ⟨rfl, rfl⟩
      refine hK.out _ _ ?_ (fun hHeld => ?_)
      · exact hHeld.alloc hHeld.size _
      clear hK K
      refine wpAnyH_ready (rs := [7]) (by kernel_rfl) (by simp) (AllReadyH.cons rfl (fun K hK => ?_) AllReadyH.nil)
      go_simp
      refine hK.out _ _ ?_ (fun hHeld => ?_)
      · exact hHeld.alloc hHeld.size _
      clear hK K
      have HF1 : Hid ((((W.alloc (.cells #[.slice a s.txs.length ca, .slice (some ⟨gb, ob, none⟩) s.ord.length cb] 44)).alloc (.cells #[.func (.func 61) #[] #[.pointer (some ⟨W.heap.size, 0, none⟩)]] 100)).drew).cell? ⟨W.heap.size + 1, 0, none⟩ = some (.func (.func 61) #[] #[.pointer (some ⟨W.heap.size, 0, none⟩)])) := by have := box1 (W.alloc (.cells #[.slice a s.txs.length ca, .slice (some ⟨gb, ob, none⟩) s.ord.length cb] 44)) (.func (.func 61) #[] #[.pointer (some ⟨W.heap.size, 0, none⟩)]) 100; rw [World.size_alloc] at this; exact this
      have HF2 : Hid ((((W.alloc (.cells #[.slice a s.txs.length ca, .slice (some ⟨gb, ob, none⟩) s.ord.length cb] 44)).alloc (.cells #[.func (.func 61) #[] #[.pointer (some ⟨W.heap.size, 0, none⟩)]] 100)).drew).cell? ⟨W.heap.size, 0, none⟩ = some (.slice a s.txs.length ca)) := cellA (box2 W _ _ _).1
      have HF3 : Hid (Below W.heap.size W (((W.alloc (.cells #[.slice a s.txs.length ca, .slice (some ⟨gb, ob, none⟩) s.ord.length cb] 44)).alloc (.cells #[.func (.func 61) #[] #[.pointer (some ⟨W.heap.size, 0, none⟩)]] 100)).drew)) := (belA (belA (Below.refl _ _) _) _).drew
      refine wpAnyH_ready (rs := [8]) (by kernel_rfl) (by simp) (AllReadyH.cons rfl (fun K hK => ?_) AllReadyH.nil)
      go_simp
      refine hK.out _ _ ?_ (fun hHeld => ?_)
      · exact HF3.out
      clear hK K
      refine wpAnyH_ready (rs := [9]) (by kernel_rfl) (by simp) (AllReadyH.cons rfl (fun K hK => ?_) AllReadyH.nil)
      go_simp
      refine hK.out _ _ ?_ (fun hHeld => ?_)
      · exact HF3.out
      clear hK K
      refine wpAnyH_done (by kernel_rfl) ?_ _
      go_wp2
      go_meet
      exact ⟨W.heap.size + 1, W.heap.size, rfl, rfl, HF1.out, HF2.out, HF3.out⟩
    · go_simp
      refine hK.out _ _ ?_ (fun hHeld => ?_)
      · exact hHeld.alloc hHeld.size _
      clear hK K
      refine wpAnyH_ready (rs := [1]) (by kernel_rfl) (by simp) (AllReadyH.cons rfl (fun K hK => ?_) AllReadyH.nil)
      go_simp
      refine (committing_any _ a (some ⟨gb, ob, none⟩) s.txs.length ca s.ord.length cb _ rfl).mono ?_
      rintro e w6 ⟨rfl, rfl⟩
      refine hK.out _ _ ?_ (fun hHeld => ?_)
      · exact hHeld.alloc hHeld.size _
      clear hK K
      have HF1 : Hid ((((W.alloc (.cells #[.func (.func 61) #[] #[.pointer (some ⟨W.heap.size + 1, 0, none⟩)]] 100)).alloc (.cells #[.slice a s.txs.length ca, .slice (some ⟨gb, ob, none⟩) s.ord.length cb] 44)).drew).cell? ⟨W.heap.size, 0, none⟩ = some (.func (.func 61) #[] #[.pointer (some ⟨W.heap.size + 1, 0, none⟩)])) := cellA (box1 W _ 100)
      have HF2 : Hid ((((W.alloc (.cells #[.func (.func 61) #[] #[.pointer (some ⟨W.heap.size + 1, 0, none⟩)]] 100)).alloc (.cells #[.slice a s.txs.length ca, .slice (some ⟨gb, ob, none⟩) s.ord.length cb] 44)).drew).cell? ⟨W.heap.size + 1, 0, none⟩ = some (.slice a s.txs.length ca)) := by have := (box2 (W.alloc (.cells #[.func (.func 61) #[] #[.pointer (some ⟨W.heap.size + 1, 0, none⟩)]] 100)) (.slice a s.txs.length ca) (.slice (some ⟨gb, ob, none⟩) s.ord.length cb) 44).1; rw [World.size_alloc] at this; exact this
      have HF3 : Hid (Below W.heap.size W (((W.alloc (.cells #[.func (.func 61) #[] #[.pointer (some ⟨W.heap.size + 1, 0, none⟩)]] 100)).alloc (.cells #[.slice a s.txs.length ca, .slice (some ⟨gb, ob, none⟩) s.ord.length cb] 44)).drew)) := (belA (belA (Below.refl _ _) _) _).drew
      refine wpAnyH_ready (rs := [8]) (by kernel_rfl) (by simp) (AllReadyH.cons rfl (fun K hK => ?_) AllReadyH.nil)
      go_simp
      refine hK.out _ _ ?_ (fun hHeld => ?_)
      · exact HF3.out
      clear hK K
      refine wpAnyH_ready (rs := [9]) (by kernel_rfl) (by simp) (AllReadyH.cons rfl (fun K hK => ?_) AllReadyH.nil)
      go_simp
      refine hK.out _ _ ?_ (fun hHeld => ?_)
      · exact HF3.out
      clear hK K
      refine wpAnyH_done (by kernel_rfl) ?_ _
      go_wp2
      go_meet
      exact ⟨W.heap.size, W.heap.size + 1, rfl, rfl, HF1.out, HF2.out, HF3.out⟩
  case rest =>
    rename World => wx
    obtain ⟨Bc, Bs, rfl, rfl, hf, hs, hbx⟩ := hcut
    have HMk : Hid (∀ Z, Below wx.heap.size wx Z → ∀ i, i < s.txs.length → Calls Tryd.prog 84 #[.int .i64 (i : Int), .pointer (some ⟨Bc, 0, none⟩), .pointer (some ⟨w.heap.size + 1, 0, none⟩), .pointer (some ⟨w.heap.size + 1 + 1, 0, none⟩)] Z fun e w' => e = .returned (.bool (makB s key i)) ∧ Below Z.heap.size Z w') := fun Z hZ i hi => by
      have hWZ : Below W.heap.size W Z := belJ hbx hZ
      have s2 := HSz.out
      exact makes_any s a (some ⟨gb, ob, none⟩) ca cb Bs Bc (w.heap.size + 1) (w.heap.size + 1 + 1) i key Z ((HS.out.below HB.out).below hWZ) h8 hk8 hi ((hZ.cell (p := ⟨Bs, 0, none⟩) (World.block_lt_of_cell? wx _ hs)).trans hs) ((hZ.cell (p := ⟨Bc, 0, none⟩) (World.block_lt_of_cell? wx _ hf)).trans hf) (HV.out.below hWZ (by omega)) ((hWZ.cell (p := ⟨w.heap.size + 1 + 1, 0, none⟩) s2).trans c2)
    have HLx := hideIt ((HL.out.below HB.out).below hbx)
    have HBx := hideIt (belJ HB.out hbx)
    have c0x := (hbx.cell (p := ⟨w.heap.size, 0, none⟩) (by show w.heap.size < W.heap.size; have := HSz.out; omega)).trans c0
    have HSx : Hid (w.heap.size < wx.heap.size) := World.block_lt_of_cell? wx _ c0x
    clear hf hs hbx HV HB HL HS c0 c1 c2 l1
    go_wp2
    go_loopw [24] (fun i wr => ∃ k : Nat, k ≤ L.length ∧ i = .int .i64 k ∧ (∀ j, j < k → fltE s key L j = 0) ∧ Below wx.heap.size wx wr) (fun i _ => L.length - (intOf i).toNat)
    case atStart => exact ⟨0, by omega, rfl, fun j hj => absurd hj (by omega), Below.refl _ _⟩
    case round =>
      obtain ⟨k, hk, rfl, hz, hb⟩ := hrel
      have HZ := hideIt hz
      have HBw := hideIt hb
      clear hz hb
      have c0w := (HBw.out.cell (p := ⟨w.heap.size, 0, none⟩) HSx.out).trans c0x
      by_cases hkn : k < L.length
      · have hkn' : (k : Int) < L.length := by omega
        have HF : Hid (fltE s key L k ≠ 0 → fltK s key = fltE s key L k) := HAt.out k hkn HZ.out
        have HZk : Hid (fltE s key L k = 0 → ∀ j, j < k + 1 → fltE s key L j = 0) := fun h0 j hjk => by
          by_cases e : j = k
          · subst e; exact h0
          · exact HZ.out j (by omega)
        have HR : Hid (fltE s key L k = if L[k] < 0 ∨ (s.txs.length : Int) ≤ L[k] then 2 else if comI s L[k] = false ∨ wroI s L[k] key = 0 then 8 else if L[k] ∈ L.take k then 9 else 0) := by
          have e : L.getD k 0 = L[k] := by rw [List.getD_eq_getElem?_getD, List.getElem?_eq_getElem hkn]; rfl
          show fltE s key L k = _
          unfold fltE
          rw [e]
        have HBN : Hid (∀ Z, Below wr.heap.size wr Z → Below w.heap.size w Z) := fun Z hZ => belJ (belJ HBx.out HBw.out) hZ
        have HCt : Hid (∀ Z, Below wx.heap.size wx Z → Calls Tryd.prog 85 #[.slice la k lc, .int .i64 L[k]] Z fun e w' => e = .returned (.bool (decide (L[k] ∈ L.take k))) ∧ w' = Z) := fun Z hZ => by
          have hlen : (L.take k).length = k := by rw [List.length_take]; omega
          have hq : IntsQ Z la (L.take k) := by
            rcases HLx.out.below hZ with h | ⟨g, o, rfl, hg, h⟩
            · subst h; simp at hkn
            · exact .inr ⟨g, o, rfl, hg, fun j hj => by rw [List.getElem_take]; exact h j (by rw [hlen] at hj; omega)⟩
          have := contains_any (L.take k) (by rw [hlen]; unfold maxLen; omega) L[k] la lc Z hq
          rw [hlen] at this
          exact this
        obtain ⟨g, o, rfl, hg, e0⟩ := (HLx.out.below HBw.out).at hkn
        generalize L[k] = x at *
        generalize fltE s key L k = f at *
        clear HAt HEnd HZ HLx
        by_cases hx0 : x < 0
        · have HE : Hid (f = 2) := by rw [HR.out, if_pos (.inl hx0)]; rfl
          clear HR HMk HCt
          go_wp2
          go_ret
          exact ⟨by rw [HF.out (by rw [HE.out]; decide), HE.out]; rfl, HBN.out _ (Below.refl _ _)⟩
        · have d0 : decide (x < 0) = false := decide_eq_false hx0
          by_cases hx1 : (s.txs.length : Int) ≤ x
          · have HE : Hid (f = 2) := by rw [HR.out, if_pos (.inr hx1)]; rfl
            have d1 : decide ((s.txs.length : Int) ≤ x) = true := decide_eq_true hx1
            clear HR HMk HCt
            go_wp2
            go_ret
            exact ⟨by rw [HF.out (by rw [HE.out]; decide), HE.out]; rfl, HBN.out _ (Below.refl _ _)⟩
          · have d1 : decide ((s.txs.length : Int) ≤ x) = false := decide_eq_false hx1
            obtain ⟨t, rfl⟩ := Int.eq_ofNat_of_zero_le (show 0 ≤ x by omega)
            have HMt := hideIt (HMk.out wr HBw.out t (by omega))
            have HR2 : Hid (f = if makB s key t = false then 8 else if (t : Int) ∈ L.take k then 9 else 0) := by
              rw [HR.out, if_neg (by omega)]
              by_cases h1 : comI s t = false ∨ wroI s t key = 0
              · have h2 : makB s key t = false := by
                  unfold makB
                  rcases h1 with h1 | h1
                  · rw [h1]; rfl
                  · rw [h1]; simp
                rw [if_pos h1, if_pos h2]; rfl
              · have h2 : makB s key t = true := by
                  unfold makB
                  simp at h1 ⊢
                  exact ⟨h1.1, by omega⟩
                rw [if_neg h1, if_neg (show ¬ makB s key t = false by rw [h2]; simp)]; rfl
            clear HR HMk
            go_wp2_with fail
            refine HMt.out.mono ?_
            rintro e w1 ⟨rfl, hb1⟩
            have HB1 := hideIt (belJ HBw.out hb1)
            have HBN1 := hideIt (HBN.out w1 hb1)
            clear hb1 HMt
            cases hmk : makB s key t
            · have HE : Hid (f = 8) := by rw [HR2.out, if_pos hmk]; rfl
              clear HR2 HCt
              go_wp2
              go_ret
              exact ⟨by rw [HF.out (by rw [HE.out]; decide), HE.out]; rfl, HBN1.out⟩
            · have HR3 : Hid (f = if (t : Int) ∈ L.take k then 9 else 0) := by rw [HR2.out, if_neg (by rw [hmk]; simp)]; rfl
              have HC1 := hideIt (HCt.out w1 HB1.out)
              clear HR2 HCt
              have hkc : (k : Int) ≤ lc := by omega
              go_wp2_with fail
              refine HC1.out.mono ?_
              rintro e w2 ⟨rfl, rfl⟩
              clear HC1
              by_cases hm9 : (t : Int) ∈ L.take k
              · have HE : Hid (f = 9) := by rw [HR3.out, if_pos hm9]; rfl
                rw [decide_eq_true hm9]
                clear HR3 hm9
                go_wp2
                go_ret
                exact ⟨by rw [HF.out (by rw [HE.out]; decide), HE.out]; rfl, HBN1.out⟩
              · have HE : Hid (f = 0) := by rw [HR3.out, if_neg hm9]; rfl
                rw [decide_eq_false hm9]
                clear HR3 hm9
                go_wp2
                go_roundw
                case rel => exact ⟨k + 1, by omega, by go_num, HZk.out HE.out, HB1.out⟩
                case measure => simp [intOf]; omega
      · have HE := hideIt (HEnd.out fun j hj => HZ.out j (by omega))
        have HBN := hideIt (belJ HBx.out HBw.out)
        clear HAt HEnd HZ HLx
        go_wp2
        go_loopw [12, 57] (fun c i wz => ∃ k : Nat, k ≤ s.txs.length ∧ i = .int .i64 k ∧ c = .int .i64 (makN s key k : Nat) ∧ Below wr.heap.size wr wz) (fun _ i _ => s.txs.length - (intOf i).toNat)
        case atStart => exact ⟨0, by omega, rfl, rfl, Below.refl _ _⟩
        case round =>
          obtain ⟨n, hn, rfl, rfl, hb⟩ := hrel
          have HBz := hideIt hb
          clear hb
          have hle := makN_le s key n
          by_cases hnl : n < s.txs.length
          · have hnl' : (n : Int) < s.txs.length := by omega
            have HMt := hideIt (HMk.out _ (belJ HBw.out HBz.out) n hnl)
            have HSu := hideIt (makN_succ s key n)
            go_wp2_with fail
            refine HMt.out.mono ?_
            rintro e w1 ⟨rfl, hb1⟩
            have HB1 := hideIt (belJ HBz.out hb1)
            clear hb1 HMt
            cases hmk : makB s key n
            · rw [hmk] at HSu
              go_wp2
              go_roundw
              case rel => exact ⟨n + 1, by omega, by go_num, by rw [HSu.out]; rfl, HB1.out⟩
              case measure => simp [intOf]; omega
            · rw [hmk] at HSu
              go_wp2
              go_roundw
              case rel => exact ⟨n + 1, by omega, by go_num, by rw [HSu.out]; rfl, HB1.out⟩
              case measure => simp [intOf]; omega
          · obtain rfl : n = s.txs.length := by omega
            rw [makN_all] at hle ⊢
            have HBE := hideIt (belJ HBN.out HBz.out)
            by_cases hcl : cntK s key = L.length
            · have e1 : ((L.length : Int) != (cntK s key : Int)) = false := by rw [hcl]; simp
              have HE2 : Hid (fltK s key = 0) := by rw [HE.out, if_pos hcl]; rfl
              clear HE
              go_wp2
              go_ret
              exact ⟨by rw [HE2.out]; rfl, HBE.out⟩
            · have e1 : ((L.length : Int) != (cntK s key : Int)) = true := by simp; omega
              have HE2 : Hid (fltK s key = 3) := by rw [HE.out, if_neg hcl]; rfl
              clear HE
              go_wp2
              go_ret
              exact ⟨by rw [HE2.out]; rfl, HBE.out⟩
end Go.Proofs.YtaopigjhdkdklaaDoor

namespace Go.Proofs.YtaopigjhdkdklaaDoor
open Go.RowKit

theorem fltI_tx {s : ISt} (h8 : s.txs.length ≤ 8) (ho : s.ord.length = 8) {k : Nat} (hk : k < s.txs.length) (hn : ∀ j (h : j < s.txs.length), j < k → fltX s s.txs[j] = 0) (h : fltX s s.txs[k] ≠ 0) : fltI s = fltX s s.txs[k] := by
  unfold fltI
  rw [if_neg (by omega), if_neg (by omega)]
  have := fstF_first (l := s.txs.map (fltX s) ++ (List.range 8).map (fltK s)) (k := k) (by simp; omega)
    (fun j h1 h2 => by rw [List.getElem_append_left (by simp; omega)]; simpa using hn j (by omega) h2) (by rw [List.getElem_append_left (by simpa using hk)]; simpa using h)
  rw [this, List.getElem_append_left (by simpa using hk)]
  simp
theorem fltI_key {s : ISt} (h8 : s.txs.length ≤ 8) (ho : s.ord.length = 8) (hx : ∀ j (h : j < s.txs.length), fltX s s.txs[j] = 0) {k : Nat} (hk : k < 8) (hn : ∀ j, j < k → fltK s j = 0) (h : fltK s k ≠ 0) : fltI s = fltK s k := by
  unfold fltI
  rw [if_neg (by omega), if_neg (by omega), fstF_app, if_pos (fstF_none fun j hj => by simpa using hx j (by simpa using hj))]
  have := fstF_first (l := (List.range 8).map (fltK s)) (k := k) (by simpa using hk) (fun j h1 h2 => by simpa using hn j h2) (by simpa using h)
  rw [this]
  simp
theorem fltI_ok {s : ISt} (h8 : s.txs.length ≤ 8) (ho : s.ord.length = 8) (hx : ∀ j (h : j < s.txs.length), fltX s s.txs[j] = 0) (hk : ∀ j, j < 8 → fltK s j = 0) : fltI s = 0 := by
  unfold fltI
  rw [if_neg (by omega), if_neg (by omega), fstF_app, if_pos (fstF_none fun j hj => by simpa using hx j (by simpa using hj))]
  exact fstF_none fun j hj => by simpa using hk j (by simpa using hj)
theorem told_ne {n : Int} (h : n ≠ 0) : toldV n = .iface 29 (.int .i64 n) := by unfold toldV; rw [if_neg h]

/-- An array laid into a new block. -/
theorem ver_laid {w1 W2 : World} {f : Nat → Nat → Nat} {cs : Array Value} (hcs : cs = (verL f).toArray) (h : (w1.alloc (.cells #[.int .i64 0, .int .i64 0, .int .i64 0, .int .i64 0, .int .i64 0, .int .i64 0, .int .i64 0, .int .i64 0, .int .i64 0, .int .i64 0, .int .i64 0, .int .i64 0, .int .i64 0, .int .i64 0, .int .i64 0, .int .i64 0, .int .i64 0, .int .i64 0, .int .i64 0, .int .i64 0, .int .i64 0, .int .i64 0, .int .i64 0, .int .i64 0, .int .i64 0, .int .i64 0, .int .i64 0, .int .i64 0, .int .i64 0, .int .i64 0, .int .i64 0, .int .i64 0, .int .i64 0, .int .i64 0, .int .i64 0, .int .i64 0, .int .i64 0, .int .i64 0, .int .i64 0, .int .i64 0, .int .i64 0, .int .i64 0, .int .i64 0, .int .i64 0, .int .i64 0, .int .i64 0, .int .i64 0, .int .i64 0, .int .i64 0, .int .i64 0, .int .i64 0, .int .i64 0, .int .i64 0, .int .i64 0, .int .i64 0, .int .i64 0, .int .i64 0, .int .i64 0, .int .i64 0, .int .i64 0, .int .i64 0, .int .i64 0, .int .i64 0, .int .i64 0] 104)).setCells w1.heap.size 0 cs.toList = W2) : VerB W2 w1.heap.size f ∧ Below w1.heap.size w1 W2 := by
  have e : cs.toList = verL f := by rw [hcs]
  rw [e] at h
  clear hcs e
  rw [← h, zeros77]
  exact ⟨(verB_new w1 _ 104).store _, (belA (Below.refl _ _) _).grown (grown_setCells _ _ 0 _) (by simp) (fun k hk => by cases hk; exact Nat.le_refl _)⟩

set_option maxRecDepth 100000 in
set_option maxHeartbeats 4000000 in
theorem pCheck_any (s : ISt) (a b : Option Addr) (ca cb : Nat) (w : World) (h : StyQ w a ca b cb s) :
    Calls Tryd.prog 45 #[.agg #[.slice a s.txs.length ca, .slice b s.ord.length cb]] w fun e w' => e = .returned (toldV (fltI s)) ∧ Below w.heap.size w w' := by
  have HS := hideIt h
  have ht := h.tmax
  have ho := h.omax
  unfold maxLen at ht ho
  have HB : Hid (Below w.heap.size w (w.alloc (.cells #[.slice a s.txs.length ca, .slice b s.ord.length cb] 44))) := belA (Below.refl _ _) _
  obtain ⟨c0, c1⟩ := box2 w (.slice a s.txs.length ca) (.slice b s.ord.length cb) 44
  clear h
  go_enter Tryd.func45, Tryd.ntmps45
  by_cases h8 : 8 < s.txs.length
  · have HE : Hid (fltI s = 4) := by unfold fltI; rw [if_pos h8]; rfl
    have h8' : (8 : Int) < s.txs.length := by omega
    go_wp2
    go_ret
    exact ⟨by rw [HE.out]; rfl, HB.out⟩
  · have h8' : ¬ (8 : Int) < s.txs.length := by omega
    by_cases hor : s.ord.length = 8
    · have hb8 : ((s.ord.length : Int) != 8) = false := by rw [hor]; rfl
      have HTx : Hid (∀ k (hk : k < s.txs.length), (∀ j (h : j < s.txs.length), j < k → fltX s s.txs[j] = 0) → fltX s s.txs[k] ≠ 0 → fltI s = fltX s s.txs[k]) := fun k hk => fltI_tx (by omega) hor hk
      have HKy : Hid ((∀ j (h : j < s.txs.length), fltX s s.txs[j] = 0) → ∀ k, k < 8 → (∀ j, j < k → fltK s j = 0) → fltK s k ≠ 0 → fltI s = fltK s k) := fun hx k hk => fltI_key (by omega) hor hx hk
      have HOk : Hid ((∀ j (h : j < s.txs.length), fltX s s.txs[j] = 0) → (∀ j, j < 8 → fltK s j = 0) → fltI s = 0) := fltI_ok (by omega) hor
      have HOr := hideIt hor
      clear hor
      generalize fltI s = R at *
      have HVs := hideIt (versionsOf_any s a b ca cb _ (HS.out.below HB.out) (by omega))
      have HSz : Hid ((Tryd.prog.info? 104).map (·.size) = some (verL (verF s)).toArray.size) := by rw [verS]; exact size77
      have HOne : Hid ((verL (verF s)).toArray.all (·.oneCell') = true) := all_oneCell_toArray (verL_one _)
      go_wp2_with fail
      refine HVs.out.mono ?_
      rintro e w1 ⟨rfl, hb1⟩
      have HB1 := hideIt (belJ HB.out hb1)
      have c0 := (hb1.cell (p := ⟨w.heap.size, 0, none⟩) (by show w.heap.size < _; simp)).trans c0
      have c1 := (hb1.cell (p := ⟨w.heap.size, 1, none⟩) (by show w.heap.size < _; simp)).trans c1
      clear HVs hb1 HB
      unfold verA
      obtain ⟨cs, HCs⟩ : ∃ cs, Hid (cs = (verL (verF s)).toArray) := ⟨_, rfl⟩
      rw [← HCs.out] at HSz HOne ⊢
      have HS64 : Hid (cs.size = 64) := by rw [HCs.out]; exact verS _
      go_upto_region 6 with (refine wpList_store_mid rfl 104 (.tmp 3) (.tmp 20) rfl w1.heap.size 0 cs rfl rfl (by rw [zeros77, HS64.out]; exact (verB_new _ _ _).there) HSz.out HOne.out ?_)
      generalize hW : World.setCells _ _ _ _ = W2
      obtain ⟨hv, hb2⟩ := ver_laid HCs.out hW
      have HV := hideIt hv
      have HB2 := hideIt (belJ HB1.out hb2)
      have d0 := (hb2.cell (p := ⟨w.heap.size, 0, none⟩) (World.block_lt_of_cell? w1 _ c0)).trans c0
      have d1 := (hb2.cell (p := ⟨w.heap.size, 1, none⟩) (World.block_lt_of_cell? w1 _ c1)).trans c1
      clear hW hv hb2 HOne HSz HB1 HS64 c0 c1
      rw [HCs.out]
      clear HCs
      have HSz : Hid ((Tryd.prog.info? 104).map (·.size) = some (verL (verF s)).length) := by rw [verL_len]; exact size77
      have HLt : Hid (w.heap.size < W2.heap.size) := World.block_lt_of_cell? W2 _ d0
      go_wp2
      go_loopw [24] (fun i wr => ∃ k : Nat, k ≤ s.txs.length ∧ i = .int .i64 k ∧ (∀ j (h : j < s.txs.length), j < k → fltX s s.txs[j] = 0) ∧ Below W2.heap.size W2 wr) (fun i _ => s.txs.length - (intOf i).toNat)
      case atStart => exact ⟨0, by omega, rfl, fun j _ hj => absurd hj (by omega), Below.refl _ _⟩
      case round =>
        obtain ⟨k, hk, rfl, hz, hb⟩ := hrel
        have HZ := hideIt hz
        have HBw := hideIt hb
        clear hz hb
        have HBwr := hideIt (belJ HB2.out HBw.out)
        have e0 := (HBw.out.cell (p := ⟨w.heap.size, 0, none⟩) HLt.out).trans d0
        have e1 := (HBw.out.cell (p := ⟨w.heap.size, 1, none⟩) HLt.out).trans d1
        have HVr := hideIt (HV.out.below HBw.out HV.out.lt)
        by_cases hkn : k < s.txs.length
        · have hkn' : (k : Int) < s.txs.length := by omega
          have HSr := hideIt (HS.out.below HBwr.out)
          obtain ⟨g, off, rfl, hg, oa, oc, o1, o2, o3, o4, o5⟩ := HSr.out.tx hkn
          have HF : Hid (fltX s s.txs[k] ≠ 0 → R = fltX s s.txs[k]) := HTx.out k hkn HZ.out
          have HZk : Hid (fltX s s.txs[k] = 0 → ∀ j (h : j < s.txs.length), j < k + 1 → fltX s s.txs[j] = 0) := fun h0 j hj hjk => by
            by_cases e : j = k
            · subst e; exact h0
            · exact HZ.out j hj (by omega)
          have HC := hideIt (checkOps_any s (some ⟨g, off, none⟩) b oa ca cb oc s.txs[k].ops (wr.alloc (.cells #[.slice oa s.txs[k].ops.length oc, .bool s.txs[k].com] 95)) (by omega) o3 (o4.below (belA (Below.refl _ _) _)))
          rw [show (if 60 < s.txs[k].ops.length then 4 else fstF (s.txs[k].ops.map (fltP s))) = fltX s s.txs[k] from rfl] at HC
          have e0' := cellA (o := .cells #[.slice oa s.txs[k].ops.length oc, .bool s.txs[k].com] 95) e0
          have e1' := cellA (o := .cells #[.slice oa s.txs[k].ops.length oc, .bool s.txs[k].com] 95) e1
          have HVr' := hideIt (HVr.out.alloc (.cells #[.slice oa s.txs[k].ops.length oc, .bool s.txs[k].com] 95))
          have HBa := hideIt (belA HBw.out (.cells #[.slice oa s.txs[k].ops.length oc, .bool s.txs[k].com] 95))
          generalize fltX s s.txs[k] = f at *
          generalize s.txs[k] = T at *
          clear HTx HKy HOk HZ o4
          unfold verA at HC
          go_upto_region 10 with (first | (refine wpList_load_mid rfl 104 (.tmp 3) rfl w1.heap.size 0 rfl (verL (verF s)) _ HVr'.out.range Tryd.underlying104 rfl HSz.out ?_) | (go_at_call 69; refine HC.out.mono ?_; rintro e w3 ⟨rfl, hb3⟩; have HB3 := hideIt (belJ HBa.out hb3); clear hb3))
          by_cases hf : f = 0
          · subst hf
            rw [show toldV 0 = .nilIface from rfl]
            go_wp2
            go_roundw
            case rel => exact ⟨k + 1, by omega, by go_num, HZk.out rfl, HB3.out⟩
            case measure => simp [intOf]; omega
          · have HE := hideIt (HF.out hf)
            have HBE := hideIt (belJ HB2.out HB3.out)
            rw [told_ne hf]
            go_wp2
            go_ret
            exact ⟨by rw [HE.out, told_ne hf]; rfl, HBE.out⟩
        · have HX : Hid (∀ j (h : j < s.txs.length), fltX s s.txs[j] = 0) := fun j hj => HZ.out j hj (by omega)
          have HKy := hideIt (HKy.out HX.out)
          have HOk := hideIt (HOk.out HX.out)
          have HOl : Hid (∀ k : Nat, k < 8 → k < s.ord.length) := fun k hk => by have := HOr.out; omega
          clear HTx HZ HX
          go_wp2
          go_loopw [40] (fun i wz => ∃ k : Nat, k ≤ 8 ∧ i = .int .i64 k ∧ (∀ j, j < k → fltK s j = 0) ∧ Below wr.heap.size wr wz) (fun i _ => 8 - (intOf i).toNat)
          case atStart => exact ⟨0, by omega, rfl, fun j hj => absurd hj (by omega), Below.refl _ _⟩
          case round =>
            obtain ⟨q, hq, rfl, hz, hb⟩ := hrel
            have HZ := hideIt hz
            have HBz := hideIt hb
            clear hz hb
            have HLr : Hid (w.heap.size < W2.heap.size ∧ W2.heap.size ≤ _) := ⟨HLt.out, HBw.out.size⟩
            have f0 := (HBz.out.cell (p := ⟨w.heap.size, 0, none⟩) (Nat.lt_of_lt_of_le HLr.out.1 HLr.out.2)).trans e0
            have f1 := (HBz.out.cell (p := ⟨w.heap.size, 1, none⟩) (Nat.lt_of_lt_of_le HLr.out.1 HLr.out.2)).trans e1
            have HVz := hideIt (HVr.out.below HBz.out HVr.out.lt)
            have HBzr := hideIt (belJ HBwr.out HBz.out)
            by_cases hq8 : q < 8
            · have hq8' : (q : Int) < s.ord.length := by have := HOr.out; omega
              have HC := hideIt (checkList_any s a b ca cb q _ (HS.out.below HBzr.out) (by omega) hq8 (HOl.out q hq8))
              have HF := hideIt (HKy.out q hq8 HZ.out)
              have HZk : Hid (fltK s q = 0 → ∀ j, j < q + 1 → fltK s j = 0) := fun h0 j hjk => by
                by_cases e : j = q
                · subst e; exact h0
                · exact HZ.out j (by omega)
              generalize fltK s q = f at *
              unfold verA at HC
              clear HKy HOk HZ HLr
              go_upto_region 17 with (first | (refine wpList_load_mid rfl 104 (.tmp 3) rfl w1.heap.size 0 rfl (verL (verF s)) _ HVz.out.range Tryd.underlying104 rfl HSz.out ?_) | (go_at_call 70; refine HC.out.mono ?_; rintro e w3 ⟨rfl, hb3⟩; have HB3 := hideIt (belJ HBz.out hb3); clear hb3))
              by_cases hf : f = 0
              · subst hf
                rw [show toldV 0 = .nilIface from rfl]
                go_wp2
                go_roundw
                case rel => exact ⟨q + 1, by omega, by go_num, HZk.out (by trivial), HB3.out⟩
                case measure => simp [intOf]; omega
              · have HE := hideIt (HF.out hf)
                have HBE := hideIt (belJ HBwr.out HB3.out)
                rw [told_ne hf]
                go_wp2
                go_ret
                exact ⟨by rw [HE.out, told_ne hf]; rfl, HBE.out⟩
            · have HE := hideIt (HOk.out fun j hj => HZ.out j (by omega))
              have hq8' : ¬ (q : Int) < s.ord.length := by have := HOr.out; omega
              clear HKy HOk HZ HLr
              go_wp2
              go_ret
              exact ⟨by rw [HE.out]; rfl, HBzr.out⟩
    · have hb8 : ((s.ord.length : Int) != 8) = true := by simp; omega
      have HE : Hid (fltI s = 3) := by unfold fltI; rw [if_neg h8, if_pos hor]; rfl
      go_wp2
      go_ret
      exact ⟨by rw [HE.out]; rfl, HB.out⟩
end Go.Proofs.YtaopigjhdkdklaaDoor
