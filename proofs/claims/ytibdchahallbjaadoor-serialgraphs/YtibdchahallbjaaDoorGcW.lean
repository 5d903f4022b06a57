/-
  The program's Groups, and the statement GraphCloses, walked.
-/
import Derived.Test.YtibdchahallbjaaDoorClW
import Derived.Test.YtibdchahallbjaaDoorGbW
import Derived.Test.YtibdchahallbjaaDoorSmB
namespace Go.Proofs.YtibdchahallbjaaDoor
open Go.RowKit

def gvL (R : List (List Bool)) : List Int := if ckG R = 0 then grpL R R.length else []
theorem gvL_len (R : List (List Bool)) : (gvL R).length ≤ 60 := by
  unfold gvL
  split
  · rename_i ok; rw [grpL_len]; have := (ckG_ok ok).1; omega
  · simp
theorem NumsAt.hasI {w : World} {g n : Nat} {f : Nat → Nat} (h : NumsAt w g n f) : HasI w (.slice (some ⟨g, 0, none⟩) n n) ((List.range n).map fun i => ((f i : Nat) : Int)) :=
  ⟨_, n, by simp, by simp, fun i hi => ⟨g, 0, rfl, by simp at hi; rw [Nat.zero_add, h.num i hi]; simp⟩⟩

theorem ReadM.below {w w' : World} {v : Value} {n : Nat} {A : Nat → Nat → Bool} (h : ReadM w v n A) (hb : Below w.heap.size w w') : ReadM w' v n A := by
  obtain ⟨a, cap, rfl, hc, hr⟩ := h
  refine ⟨a, cap, rfl, hc, fun i hi => ?_⟩
  obtain ⟨g, off, r, e, h1, h2⟩ := hr i hi
  exact ⟨g, off, r, e, (hb.cell (p := ⟨g, off + i, none⟩) (World.block_lt_of_cell? w _ h1)).trans h1, fun k hk => (hb.cell (p := ⟨r, k, none⟩) (World.block_lt_of_cell? w _ (h2 k hk))).trans (h2 k hk)⟩
theorem ReadM.same {w : World} {v : Value} {n : Nat} {A A' : Nat → Nat → Bool} (h : ReadM w v n A) (e : ∀ i k, i < n → k < n → A i k = A' i k) : ReadM w v n A' := by
  obtain ⟨a, cap, rfl, hc, hr⟩ := h
  refine ⟨a, cap, rfl, hc, fun i hi => ?_⟩
  obtain ⟨g, off, r, e0, h1, h2⟩ := hr i hi
  exact ⟨g, off, r, e0, h1, fun k hk => by rw [← e i k hi hk]; exact h2 k hk⟩
theorem MatAt.far {w : World} {base B n m : Nat} {rb : Nat → Nat} {M : Nat → Nat → Bool} (h : MatAt w base B n m rb M) {p : Addr} (hB : p.block ≠ B) (hr : ∀ i, i < m → p.block ≠ rb i) (u : Value) : MatAt (w.setCell p u) base B n m rb M := by
  obtain ⟨cur, hc⟩ := h.blk
  have hcell : ∀ j, (w.setCell p u).cell? ⟨B, j, none⟩ = w.cell? ⟨B, j, none⟩ := fun j => World.cell?_of_block (a := ⟨B, j, none⟩) (Below.heap_setCell w p u B (Ne.symm hB))
  exact ⟨⟨cur, (Below.heap_setCell w p u B (Ne.symm hB)).trans hc⟩, h.lo, fun j hj => by rw [hcell]; exact h.room j hj, h.few, fun j hj => by rw [hcell]; exact h.head j hj, fun j hj => (h.row j hj).other (p := p) (Ne.symm (hr j hj)) u, h.from_, h.inj⟩

set_option maxRecDepth 100000 in
set_option maxHeartbeats 4000000 in
theorem gGroups_any (R : List (List Bool)) (a : Option Addr) (cap : Nat) (w : World) (hmax : R.length ≤ maxLen) (hrm : ∀ r ∈ R, r.length ≤ maxLen) (hg : GrQ w a R) :
    Calls Tryd.prog 21 #[.slice a R.length cap] w fun e w' => ∃ v, e = .returned (.tuple #[v, toldV (ckG R)]) ∧ HasI w' v (gvL R) ∧ Below w.heap.size w w' := by
  have HC := hideIt (gClosed_any R a cap w hmax hrm hg)
  unfold PcTold at HC
  unfold gvL grpL
  by_cases ok : ckG R = 0
  · have h40 := (ckG_ok ok).1
    rw [if_pos ok]
    rw [ok] at HC ⊢
    generalize gB R = g at HC ⊢
    clear hg ok hrm hmax
    generalize R.length = n at *
    have ht0 : toldV 0 = .nilIface := rfl
    rw [ht0] at HC ⊢
    go_enter Tryd.func21, Tryd.ntmps21
    go_wp2_with fail
    refine HC.out.mono ?_
    clear HC
    rintro e w1 ⟨v1, rfl, hok, _, hb1⟩
    obtain ⟨B, rb, rfl, hM⟩ := hok trivial
    have HM := hideIt (hM.alloc (.cells (madeCells #[.int .i64 0] n) 3))
    have HN := hideIt (nums_made w1 n)
    have HB : Hid (Below w.heap.size w (w1.alloc (.cells (madeCells #[.int .i64 0] n) 3))) := belA hb1 _
    have HBl : Hid (B ≠ w1.heap.size ∧ (∀ i, i < n → rb i ≠ w1.heap.size) ∧ w.heap.size ≤ w1.heap.size) := ⟨Nat.ne_of_lt hM.lt, fun i hi => Nat.ne_of_lt (hM.row i hi).lt, hb1.size⟩
    have hmk := made_nums w1 n (by omega)
    clear hok hM hb1
    go_wp2
    clear hmk
    generalize w1.alloc _ = W at HM HN HB ⊢
    generalize w1.heap.size = G at HN HBl ⊢
    go_loopw [21] (fun v wr => ∃ (k : Nat) (f : Nat → Nat), k ≤ n ∧ v = .int .i64 k ∧ (∀ i, i < k → f i = grpG g n i) ∧ NumsAt wr G n f ∧ MatAt wr w.heap.size B n n rb (war g n) ∧ Below w.heap.size w wr) (fun v _ => n - (intOf v).toNat)
    case atStart => exact ⟨0, _, Nat.zero_le _, rfl, fun i hi => absurd hi (by omega), HN.out, HM.out, HB.out⟩
    case round =>
      clear HM HN HB
      obtain ⟨k, f, hk, rfl, hf, hN, hM, hb⟩ := hrel
      have HM := hideIt hM
      have HN := hideIt hN
      have HB := hideIt hb
      have HF := hideIt hf
      clear hM hN hb hf
      by_cases hkn : k < n
      · have hkn' : (k : Int) < n := by omega
        have HCl := hideIt (leader_any g n k (by omega) hkn w.heap.size B rb wr HM.out)
        have c0 := HN.out.num k hkn
        have z0 := HN.out.fz k
        have HP : Hid (∀ x : Nat, x = grpG g n k → ∃ f, (∀ i, i < k + 1 → f i = grpG g n i) ∧ NumsAt (wr.setCell ⟨G, k, none⟩ (.int .i64 (x : Nat))) G n f ∧ MatAt (wr.setCell ⟨G, k, none⟩ (.int .i64 (x : Nat))) w.heap.size B n n rb (war g n) ∧ Below w.heap.size w (wr.setCell ⟨G, k, none⟩ (.int .i64 (x : Nat)))) := fun x hx => by
          refine ⟨_, fun i hi => ?_, HN.out.put hkn x, HM.out.far (p := ⟨G, k, none⟩) (Ne.symm HBl.out.1) (fun i hi => Ne.symm (HBl.out.2.1 i hi)) _, HB.out.setCell (p := ⟨G, k, none⟩) HBl.out.2.2 _⟩
          by_cases e : i = k
          · subst e; rw [if_pos rfl]; exact hx
          · rw [if_neg e]; exact HF.out i (by omega)
        go_wp2_with fail
        refine HCl.out.mono ?_
        clear HCl
        rintro e w2 ⟨rfl, rfl⟩
        obtain ⟨f', R1⟩ := HP.out _ rfl
        have R1' := hideIt R1
        generalize grpG g n k = x at R1' ⊢
        clear R1 HP
        go_wp2
        go_roundw
        case rel => exact ⟨k + 1, f', by omega, by go_num, R1'.out⟩
        case measure => simp [intOf]; omega
      · obtain rfl : k = n := by omega
        go_wp2
        go_ret2
        refine ⟨_, rfl, ?_, HB.out⟩
        have := HN.out.hasI
        rwa [show ((List.range k).map fun i => ((f i : Nat) : Int)) = (List.range k).map fun i => ((grpG g k i : Nat) : Int) from List.map_congr_left fun i hi => by rw [HF.out i (List.mem_range.1 hi)]] at this
  · have hn : toldV (ckG R) = .iface 24 (.int .i64 (ckG R)) := by unfold toldV; rw [if_neg ok]
    rw [if_neg ok]
    rw [hn] at HC ⊢
    clear hg hrm hmax hn
    generalize ckG R = c at HC ok ⊢
    go_enter Tryd.func21, Tryd.ntmps21
    go_wp2_with fail
    refine HC.out.mono ?_
    clear HC
    rintro e w1 ⟨v1, rfl, _, hno, hb1⟩
    obtain rfl := hno ok
    go_wp2
    go_ret2
    exact ⟨_, rfl, hasI_nil _, hb1⟩

set_option maxRecDepth 100000 in
set_option maxHeartbeats 4000000 in
theorem gl_walk (R : List (List Bool)) (a : Option Addr) (cap : Nat) (w : World) (h : InG w a cap R) :
    Calls Tryd.prog 5 #[.slice a R.length cap] w fun e w' => e = .returned (.bool true) ∧ Below w.heap.size w w' := by
  have HI := hideIt h
  clear h
  have HF := hideIt (flat_any R a cap w HI.out.max HI.out.row HI.out.at_)
  have HTv : Hid (∀ W, TypAt W → Calls Tryd.prog 13 #[toldV (ckG R), .int .i64 (ckG R)] W fun e w' => e = .returned (.bool true) ∧ Below W.heap.size W w') := fun W hW => bare_any (ckG R) W hW
  go_enter Tryd.func5, Tryd.ntmps5
  go_wp2_with fail
  refine HF.out.mono ?_
  clear HF
  rintro e w1 ⟨b, rfl, rfl⟩
  cases b
  · go_wp2
    go_ret
    exact ⟨rfl, Below.refl _ _⟩
  have HC := hideIt (rGCheck_any R a cap w1 HI.out.max HI.out.row HI.out.at_)
  by_cases ok : ckG R = 0
  · have h40 := (ckG_ok ok).1
    have HNN : Hid (R.length ≤ 60) := by show R.length ≤ 60; omega
    have HCd := hideIt (rClosed_any R ok a cap w1 HI.out.at_)
    rw [ok] at HC HTv
    go_wp2_with fail
    refine HC.out.mono ?_
    clear HC
    rintro e w2 ⟨rfl, rfl⟩
    go_wp2_with fail
    refine HCd.out.mono ?_
    clear HCd
    intro e w3 h3
    obtain ⟨v3, gs3, A3, rfl, hout3, hgs3, hA3, hb3⟩ := h3
    have hrd3 := (hout3.readM hgs3).same hA3
    have HR3 := hideIt hrd3
    have HB3 := hideIt hb3
    have HCr := hideIt (rGroups_any R ok a cap w3 (HI.out.at_.below hb3))
    clear hrd3 hb3 hout3 hgs3 hA3
    go_wp2_with fail
    refine HCr.out.mono ?_
    clear HCr
    rintro e W ⟨v4, rfl, hrow4, hb4⟩
    have HBW := hideIt (belJ HB3.out hb4)
    have HWant := hideIt (HR3.out.below hb4)
    have HGrp : Hid (HasI W v4 (gvL R)) := by
      show HasI W v4 (gvL R)
      unfold gvL; rw [if_pos ok]; exact hrow4.hasI
    clear hrow4 hb4 HR3 HB3
    have HCc := hideIt (gClosed_any R a cap W HI.out.max HI.out.row (HI.out.at_.below HBW.out))
    go_wp2_with fail
    refine HCc.out.mono ?_
    clear HCc
    rintro e w5 ⟨v5, rfl, hok5, hno5, hb5⟩
    have HB5 := hideIt (belJ HBW.out hb5)
    have HV5 : Hid (ReadM w5 v5 R.length (war (gB R) R.length)) := (by
          obtain ⟨B, rb, rfl, hM⟩ := hok5 ok
          exact hM.readM)
    have HW5 := hideIt (HWant.out.below hb5)
    have HG5 := hideIt (HGrp.out.below hb5)
    clear hok5 hno5 hb5
    rw [ok]
    have HCx := hideIt (gGroups_any R a cap w5 HI.out.max HI.out.row (HI.out.at_.below HB5.out))
    rw [ok] at HCx
    generalize toldV 0 = tv at HTv HCx ⊢
    go_wp2_with fail
    refine HCx.out.mono ?_
    clear HCx
    rintro e w6 ⟨v6, rfl, hi6, hb6⟩
    have HB6 := hideIt (belJ HB5.out hb6)
    have HI6 := hideIt hi6
    have HV6 := hideIt (HV5.out.below hb6)
    have HW6 := hideIt (HW5.out.below hb6)
    have HG6 := hideIt (HG5.out.below hb6)
    have HBa := hideIt (HTv.out w6 (HI.out.below HB6.out).typ)
    clear hi6 hb6 HV5 HW5 HG5
    go_wp2_with fail
    refine HBa.out.mono ?_
    clear HBa
    rintro e w7 ⟨rfl, hb7⟩
    have HB7 := hideIt (belJ HB6.out hb7)
    have HSb := hideIt (sameBools_any R.length HNN.out (war (gB R) R.length) v5 v3 w7 (HV6.out.below hb7) (HW6.out.below hb7))
    have HG7 := hideIt (HG6.out.below hb7)
    have HI7 := hideIt (HI6.out.below hb7)
    clear hb7 HV6 HW6 HG6 HI6
    go_wp2_with fail
    refine HSb.out.mono ?_
    clear HSb
    rintro e w8 ⟨rfl, hb8⟩
    have HB8 := hideIt (belJ HB7.out hb8)
    have HG8 := hideIt (HG7.out.below hb8)
    have HI8 := hideIt (HI7.out.below hb8)
    have HBb := hideIt (HTv.out w8 (HI.out.below HB8.out).typ)
    clear hb8 HG7 HI7
    go_wp2_with fail
    refine HBb.out.mono ?_
    clear HBb
    rintro e w9 ⟨rfl, hb9⟩
    have HB9 := hideIt (belJ HB8.out hb9)
    have HSi := hideIt (sameInts_any (gvL R) (gvL_len R) v6 v4 w9 (HI8.out.below hb9) (HG8.out.below hb9))
    clear hb9 HG8 HI8
    go_wp2_with fail
    refine HSi.out.mono ?_
    clear HSi
    rintro e w10 ⟨rfl, hb10⟩
    go_wp2
    go_ret
    exact ⟨rfl, belJ HB9.out hb10⟩
  · have HNN : Hid ((0 : Nat) ≤ 60) := by show (0 : Nat) ≤ 60; omega
    have HWant : Hid (ReadM w1 (.slice none 0 0) 0 (war (gB R) R.length)) := readM_nil _ _
    have HGrp : Hid (HasI w1 (.slice none 0 0) (gvL R)) := by
      show HasI w1 (.slice none 0 0) (gvL R)
      unfold gvL; rw [if_neg ok]; exact hasI_nil _
    have HBW : Hid (Below w1.heap.size w1 w1) := Below.refl _ _
    obtain ⟨cg, HCg⟩ : ∃ cg, Hid (ckG R = cg) := ⟨_, hideIt rfl⟩
    have HOk := hideIt ok
    rw [HCg.out] at HC ok HTv
    go_wp2_with fail
    refine HC.out.mono ?_
    clear HC
    rintro e W ⟨rfl, rfl⟩
    have HCc := hideIt (gClosed_any R a cap W HI.out.max HI.out.row (HI.out.at_.below HBW.out))
    go_wp2_with fail
    refine HCc.out.mono ?_
    clear HCc
    rintro e w5 ⟨v5, rfl, hok5, hno5, hb5⟩
    have HB5 := hideIt (belJ HBW.out hb5)
    have HV5 : Hid (ReadM w5 v5 0 (war (gB R) R.length)) := (by
          obtain rfl := hno5 HOk.out
          exact readM_nil _ _)
    have HW5 := hideIt (HWant.out.below hb5)
    have HG5 := hideIt (HGrp.out.below hb5)
    clear hok5 hno5 hb5
    rw [HCg.out]
    have HCx := hideIt (gGroups_any R a cap w5 HI.out.max HI.out.row (HI.out.at_.below HB5.out))
    rw [HCg.out] at HCx
    generalize toldV cg = tv at HTv HCx ⊢
    go_wp2_with fail
    refine HCx.out.mono ?_
    clear HCx
    rintro e w6 ⟨v6, rfl, hi6, hb6⟩
    have HB6 := hideIt (belJ HB5.out hb6)
    have HI6 := hideIt hi6
    have HV6 := hideIt (HV5.out.below hb6)
    have HW6 := hideIt (HW5.out.below hb6)
    have HG6 := hideIt (HG5.out.below hb6)
    have HBa := hideIt (HTv.out w6 (HI.out.below HB6.out).typ)
    clear hi6 hb6 HV5 HW5 HG5
    go_wp2_with fail
    refine HBa.out.mono ?_
    clear HBa
    rintro e w7 ⟨rfl, hb7⟩
    have HB7 := hideIt (belJ HB6.out hb7)
    have HSb := hideIt (sameBools_any 0 HNN.out (war (gB R) R.length) v5 (.slice none 0 0) w7 (HV6.out.below hb7) (HW6.out.below hb7))
    have HG7 := hideIt (HG6.out.below hb7)
    have HI7 := hideIt (HI6.out.below hb7)
    clear hb7 HV6 HW6 HG6 HI6
    go_wp2_with fail
    refine HSb.out.mono ?_
    clear HSb
    rintro e w8 ⟨rfl, hb8⟩
    have HB8 := hideIt (belJ HB7.out hb8)
    have HG8 := hideIt (HG7.out.below hb8)
    have HI8 := hideIt (HI7.out.below hb8)
    have HBb := hideIt (HTv.out w8 (HI.out.below HB8.out).typ)
    clear hb8 HG7 HI7
    go_wp2_with fail
    refine HBb.out.mono ?_
    clear HBb
    rintro e w9 ⟨rfl, hb9⟩
    have HB9 := hideIt (belJ HB8.out hb9)
    have HSi := hideIt (sameInts_any (gvL R) (gvL_len R) v6 (.slice none 0 0) w9 (HI8.out.below hb9) (HG8.out.below hb9))
    clear hb9 HG8 HI8
    go_wp2_with fail
    refine HSi.out.mono ?_
    clear HSi
    rintro e w10 ⟨rfl, hb10⟩
    go_wp2
    go_ret
    exact ⟨rfl, belJ HB9.out hb10⟩
end Go.Proofs.YtibdchahallbjaaDoor
