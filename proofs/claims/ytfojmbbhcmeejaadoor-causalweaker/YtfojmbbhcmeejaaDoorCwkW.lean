/-
  The statement CausalWeaker, walked.
-/
import Derived.Test.YtfojmbbhcmeejaaDoorWeP
import Derived.Test.YtfojmbbhcmeejaaDoorWaitsSZ
import Derived.Test.YtfojmbbhcmeejaaDoorCoW
namespace Go.Proofs.YtfojmbbhcmeejaaDoor
open Go.RowKit

theorem causal_ck {l : List Opn} (ok : KOk l) : CkTold 1 l 0 := by
  refine .inr (.inr ⟨ok.told, ?_, rfl⟩)
  rw [List.any_eq_false]
  intro x hx
  obtain ⟨i, hi, e⟩ := List.getElem_of_mem hx
  rw [← e, ← opZ_at hi]
  rcases ok.kind i hi with e | e <;> simp [knowsB, e]

theorem runK_of {l : List Opn} (ok : KOk l) {c : Sr} (hc : c.ops = l) (ho : c.o = 1) {ord : List Nat} {S : Int → List Int} (h : Reach c ord S) (hov : overB c.ops ord = true) : RunK l ord := by
  subst hc
  refine ⟨(List.perm_ext_iff_of_nodup (reach_nodup h) List.nodup_range).2 fun n => ⟨fun hn => List.mem_range.2 (reach_range h n hn), fun hn => ?_⟩, fun j hj => ?_⟩
  · simp only [overB, List.all_eq_true] at hov
    have hl := List.mem_range.1 hn
    have := hov n hn
    simp at this
    rcases this with h1 | h1
    · have hb := ok.back n hl
      rw [opN_at hl, ← opZ_at hl] at h1
      omega
    · exact h1
  · rw [← ho]; exact (reach_run h).2 j hj

theorem causal_weaker {l : List Opn} (ok : KOk l) {bud : Nat} (h : (searchM (Sm.srB 1 l bud)).code = 1) : (findsK l).1 = 0 := by
  obtain ⟨S, hR, ho⟩ := search_valid h
  have hrun := runK_of ok (c := Sm.srB 1 l bud) rfl rfl hR ho
  refine weaker ok hrun fun i j hij hj => ?_
  have ht := reach_timely hR j hj i hij
  have hlj := hrun.lt hj
  have hli := hrun.lt (Nat.lt_trans hij hj)
  have e : (Sm.srB 1 l bud).ah = sameB := rfl
  have e' : (Sm.srB 1 l bud).ops = l := rfl
  rw [e, e', opN_at hlj, opN_at hli, ← opZ_at hlj, ← opZ_at hli] at ht
  rintro ⟨h1, h2⟩
  simp [sameB, h1, h2] at ht

set_option maxRecDepth 100000 in
set_option maxHeartbeats 2000000 in
theorem cw_walk (ops : List Opn) (u : Value) (w : World) (hl : OpsIn w u ops) (hK : KnownAt w) :
    Calls Tryd.prog 5 #[u] w fun e w' => e = .returned (.bool true) ∧ Below w.heap.size w w' := by
  have hpos : 0 < w.heap.size := World.block_lt_of_cell? w ⟨0, 0 * 13 + 0, none⟩ (hK 0 0 (by decide) (by decide))
  obtain ⟨a, cap, rfl, hcap, hml, hh⟩ := opsQ_in hl
  unfold maxLen at hml
  by_cases h8 : 8 < ops.length
  · have h8' : decide (8 < (ops.length : Int)) = true := by simp; omega
    clear hl hh hK
    go_enter Tryd.func5, Tryd.ntmps5
    go_wp2
    go_ret
    exact ⟨rfl, Below.refl _ _⟩
  · have h8' : decide (8 < (ops.length : Int)) = false := by simp; omega
    have HF := hideIt (kFinds_any ops a cap w (by omega) hcap hh)
    have HT : Hid (∀ w1, Below w.heap.size w w1 → Calls Tryd.prog 18 #[] w1 fun e w' => e = .returned (.bool true) ∧ Below w1.heap.size w1 w') := hideIt (fun w1 hb => toldK_any w1 (hK.below hpos hb))
    have HC : Hid (∀ w1, Below w.heap.size w w1 → Calls Tryd.prog 19 #[.int .i64 1, .slice a ops.length cap, .int .i64 1000000] w1 fun e w' => Sm.JTold 1 1000000 ops w1 e w') := hideIt (fun w1 hb => Sm.same_all 1 1000000 ops _ w1 (by omega) (hl.below hb) (hK.below hpos hb))
    clear hl hh hK
    go_enter Tryd.func5, Tryd.ntmps5
    go_wp2_with fail
    refine HF.out.mono ?_
    rintro e w1 ⟨n, c, p, q, rfl, hct, hf0, hfn, hb1⟩
    have HB1 := hideIt hb1
    have HCT := hideIt hct
    have HF0 := hideIt hf0
    have HFN := hideIt hfn
    clear hb1 hct hf0 hfn HF
    by_cases hn : n = 0
    · subst hn
      rw [show toldV 0 = .nilIface from by simp [toldV]]
      have HOk := hideIt (kOk_of HCT.out)
      have HLC : Hid (LcTold 1 1000000 ops 0) := .inr (.inr ⟨rfl, by decide, by decide, causal_ck HOk.out⟩)
      have HW : Hid ((searchM (Sm.srB 1 ops 1000000)).code = 1 → c = 0) := fun h => by
        have := causal_weaker HOk.out h
        rw [← HF0.out rfl] at this
        exact this
      go_wp2_with fail
      refine (HT.out _ HB1.out).mono ?_
      rintro e w2 ⟨rfl, hb2⟩
      have HB2 := hideIt (HB1.out.trans (hb2.mono HB1.out.size))
      clear hb2
      go_wp2_with fail
      refine (HC.out _ HB2.out).mono ?_
      rintro e w3 ⟨hb3, ⟨n3, hn3, hlc, rfl⟩ | ⟨hlc, ov, rfl, ho1, ho2⟩⟩
      · exact absurd (lcTold_one hlc HLC.out) hn3
      · have hov : ∃ va vn vc, ov = .slice va vn vc := by
          by_cases h1 : (searchM (Sm.srB 1 ops ((1000000 : Int)).toNat)).code = 1
          · rcases (ho1 h1).2 with ⟨e, _⟩ | ⟨g, cp, cur, e, _⟩
            · exact ⟨_, _, _, e⟩
            · exact ⟨_, _, _, e⟩
          · exact ⟨_, _, _, ho2 h1⟩
        obtain ⟨va, vn, vc, rfl⟩ := hov
        clear ho1 ho2
        have HB3 := hideIt (HB2.out.trans (hb3.mono HB2.out.size))
        clear hb3 hlc
        have HWW := HW.out
        rw [show ((1000000 : Int)).toNat = 1000000 from rfl]
        generalize (searchM (Sm.srB 1 ops 1000000)).code = cc at HWW ⊢
        by_cases hcc : cc = 1
        · have hc0 : c = 0 := HWW hcc
          subst hc0 hcc
          go_wp2
          go_ret
          exact ⟨by first | rfl | simp, belA HB3.out _⟩
        · have hcc' : ((cc : Int) != 1) = true := by simp; omega
          clear HWW hcc
          go_wp2
          go_ret
          exact ⟨by first | rfl | simp, belA HB3.out _⟩
    · rw [show toldV n = .iface 23 (.int .i64 n) from by simp [toldV, hn]]
      obtain ⟨rfl, _, _⟩ := HFN.out hn
      go_wp2_with fail
      refine (HT.out _ HB1.out).mono ?_
      rintro e w2 ⟨rfl, hb2⟩
      have HB2 := hideIt (HB1.out.trans (hb2.mono HB1.out.size))
      clear hb2
      go_wp2_with fail
      refine (HT.out _ HB2.out).mono ?_
      rintro e w3 ⟨rfl, hb3⟩
      have HB3 := hideIt (HB2.out.trans (hb3.mono HB2.out.size))
      clear hb3
      go_wp2
      go_ret
      exact ⟨rfl, HB3.out⟩

end Go.Proofs.YtfojmbbhcmeejaaDoor
