/-
  The program's store, walked: plain.Play.
-/
import Derived.Test.YtncnojgemmcplaaSwP
import Derived.Test.YtncnojgemmcplaaMvM
namespace Go.Proofs.Ytncnojgemmcplaa
open Go.RowKit

section
variable {w0 W W' : World} {K : StK} {P : Pst}
def mvV (m : Mvs) : Value := .agg #[.int .i64 m.what, .int .i64 m.a, .int .i64 m.b, .int .i64 m.c]
theorem StTold.pre {P' : Pst} {W1 W2 : World} (hb : Below W.heap.size W W1) (h : StTold w0 K P W1 P' W2) : StTold w0 K P W P' W2 := by
  obtain ⟨K', h1, h2⟩ := h
  exact ⟨K', h1, (SFr.below hb).trans h2⟩
set_option maxRecDepth 100000 in
set_option maxHeartbeats 8000000 in
theorem play_any {b : Nat} (h : StoP w0 W K P) (hI : PInv P b) (m : Mvs) :
    Calls Try.prog 15 #[.pointer (some ⟨K.B, 0, none⟩), mvV m] W fun en W' => en = .returned (toldE (playC P m)) ∧ StTold w0 K P W (playP P m) W' := by
  obtain ⟨what, ma, mb, mc⟩ := m
  unfold mvV
  have hB := belA (Below.refl W.heap.size W) (.cells #[.int .i64 what, .int .i64 ma, .int .i64 mb, .int .i64 mc] 49)
  have hP1 := h.below hB
  have HB := hideIt hB
  have HP := hideIt hP1
  have HI := hideIt hI
  have hkc := h.ltB
  clear h hI hB hP1
  unfold playC playP
  dsimp only
  by_cases e0 : what = 0
  · simp only [if_pos e0]
    have HC := hideIt (begin_any HP.out HI.out.bnd ma mb false mc)
    generalize toldE (begC P ma mb false mc) = ve at HC ⊢
    subst e0
    clear HP HI
    go_enter Try.func15, Try.ntmps15
    go_wp2_with fail
    refine HC.out.mono ?_
    rintro e W2 ⟨rfl, hT⟩
    have HT := hideIt (StTold.pre HB.out hT)
    clear hT HC HB
    go_wp2
    go_ret
    exact ⟨rfl, HT.out⟩
  simp only [if_neg e0]
  have n0 : (what == 0) = false := by simp [e0]
  by_cases e1 : what = 1
  · simp only [if_pos e1]
    have HC := hideIt (begin_any HP.out HI.out.bnd ma mb true mc)
    generalize toldE (begC P ma mb true mc) = ve at HC ⊢
    subst e1
    clear HP HI
    go_enter Try.func15, Try.ntmps15
    go_wp2_with fail
    refine HC.out.mono ?_
    rintro e W2 ⟨rfl, hT⟩
    have HT := hideIt (StTold.pre HB.out hT)
    clear hT HC HB
    go_wp2
    go_ret
    exact ⟨rfl, HT.out⟩
  simp only [if_neg e1]
  have n1 : (what == 1) = false := by simp [e1]
  by_cases e2 : what = 2
  · simp only [if_pos e2]
    have HC := hideIt (deliver_any HP.out HI.out.bnd ma)
    generalize toldE (deliC P ma) = ve at HC ⊢
    subst e2
    clear HP HI
    go_enter Try.func15, Try.ntmps15
    go_wp2_with fail
    refine HC.out.mono ?_
    rintro e W2 ⟨rfl, hT⟩
    have HT := hideIt (StTold.pre HB.out hT)
    clear hT HC HB
    go_wp2
    go_ret
    exact ⟨rfl, HT.out⟩
  simp only [if_neg e2]
  have n2 : (what == 2) = false := by simp [e2]
  by_cases e3 : what = 3
  · simp only [if_pos e3]
    have HC := hideIt (dropS_any HP.out HI.out.ml ma)
    generalize toldE (dropC P ma) = ve at HC ⊢
    subst e3
    clear HP HI
    go_enter Try.func15, Try.ntmps15
    go_wp2_with fail
    refine HC.out.mono ?_
    rintro e W2 ⟨rfl, hT⟩
    have HT := hideIt (StTold.pre HB.out hT)
    clear hT HC HB
    go_wp2
    go_ret
    exact ⟨rfl, HT.out⟩
  simp only [if_neg e3]
  have n3 : (what == 3) = false := by simp [e3]
  by_cases e4 : what = 4
  · simp only [if_pos e4]
    have HC := hideIt (doubleS_any HP.out ma)
    generalize toldE (doubC P ma) = ve at HC ⊢
    subst e4
    clear HP HI
    go_enter Try.func15, Try.ntmps15
    go_wp2_with fail
    refine HC.out.mono ?_
    rintro e W2 ⟨rfl, hT⟩
    have HT := hideIt (StTold.pre HB.out hT)
    clear hT HC HB
    go_wp2
    go_ret
    exact ⟨rfl, HT.out⟩
  simp only [if_neg e4]
  have n4 : (what == 4) = false := by simp [e4]
  by_cases e5 : what = 5
  · simp only [if_pos e5]
    have HC := hideIt (giveUp_any HP.out HI.out.bnd.ev HI.out.bnd.st ma)
    generalize toldE (giveC P ma) = ve at HC ⊢
    subst e5
    clear HP HI
    go_enter Try.func15, Try.ntmps15
    go_wp2_with fail
    refine HC.out.mono ?_
    rintro e W2 ⟨rfl, hT⟩
    have HT := hideIt (StTold.pre HB.out hT)
    clear hT HC HB
    go_wp2
    go_ret
    exact ⟨rfl, HT.out⟩
  simp only [if_neg e5]
  have n5 : (what == 5) = false := by simp [e5]
  by_cases e6 : what = 6
  · simp only [if_pos e6]
    have HC := hideIt (cutS_nil HP.out)
    generalize toldE (0) = ve at HC ⊢
    subst e6
    clear HP HI
    go_enter Try.func15, Try.ntmps15
    go_wp2_with fail
    refine HC.out.mono ?_
    rintro e W2 ⟨rfl, hT⟩
    have HT := hideIt (StTold.pre HB.out hT)
    clear hT HC HB
    go_wp2
    go_ret
    exact ⟨rfl, HT.out⟩
  simp only [if_neg e6]
  have n6 : (what == 6) = false := by simp [e6]
  have HL := hideIt (links_any what ma mb (W.alloc (.cells #[.int .i64 what, .int .i64 ma, .int .i64 mb, .int .i64 mc] 49)))
  have HE : Hid (∀ c : Int, c ≠ 0 → toldE c = .iface 46 (.int .i64 c)) := fun c hc => by unfold toldE; rw [if_neg hc]
  have HQ : Hid (∀ Z, Below (W.alloc (.cells #[.int .i64 what, .int .i64 ma, .int .i64 mb, .int .i64 mc] 49)).heap.size (W.alloc (.cells #[.int .i64 what, .int .i64 ma, .int .i64 mb, .int .i64 mc] 49)) Z → StoP w0 Z K P ∧ Below W.heap.size W Z) := fun Z hZ => ⟨HP.out.below hZ, belJ HB.out hZ⟩
  have Hn := hideIt (show 1 ≤ P.n ∧ P.n ≤ 7 ∧ P.k ≤ 8 from ⟨HI.out.n1, HI.out.n7, HI.out.k8⟩)
  clear HP HI HB e0 e1 e2 e3 e4 e5 e6
  generalize hrule : ruleW what = rule at HL ⊢
  have HNo : Hid (∀ c : Int, c ≠ 0 → cutC P rule ma mb = c → cutP P rule ma mb = P) := fun c hc he => by unfold cutP; rw [if_neg (by rw [he]; exact hc)]
  clear hrule
  go_enter Try.func15, Try.ntmps15
  go_wp2_with fail
  refine HL.out.mono ?_
  clear HL
  rintro e W2 (⟨h1, rfl, h2⟩ | ⟨h1, hr, h5, rfl, h2⟩ | ⟨n, rfl, h1, h5, lv, rfl, h3, h4⟩)
  · have hc : cutC P rule ma mb = 4 := by unfold cutC; rw [if_pos h1]
    have HR : Hid (toldE (cutC P rule ma mb) = .iface 46 (.int .i64 4) ∧ StTold w0 K P W (cutP P rule ma mb) W2) := by
      obtain ⟨q1, q2⟩ := HQ.out W2 h2
      rw [HNo.out 4 (by decide) hc, hc]
      exact ⟨rfl, K, q1, SFr.below q2⟩
    clear hc h1 h2 HQ HNo HE Hn
    unfold badV
    go_wp2
    go_ret
    exact ⟨by rw [HR.out.1]; rfl, HR.out.2⟩
  · have hc : cutC P rule ma mb = 2 := by unfold cutC; rw [if_neg (by omega), if_pos ⟨hr, h5⟩]
    have HR : Hid (toldE (cutC P rule ma mb) = .iface 46 (.int .i64 2) ∧ StTold w0 K P W (cutP P rule ma mb) W2) := by
      obtain ⟨q1, q2⟩ := HQ.out W2 h2
      rw [HNo.out 2 (by decide) hc, hc]
      exact ⟨rfl, K, q1, SFr.below q2⟩
    clear hc h1 h2 h5 hr HQ HNo HE Hn
    unfold badV
    go_wp2
    go_ret
    exact ⟨by rw [HR.out.1]; rfl, HR.out.2⟩
  · obtain ⟨q1, q2⟩ := HQ.out W2 h4
    obtain ⟨g, off, cap, rfl, _⟩ := h3.tab (show 0 < n by omega)
    have hc : cutC P rule (n : Int) mb = if (n : Int) ≠ P.n then 3 else 0 := by
      unfold cutC
      rw [if_neg (by omega), if_neg (fun hx => by have := h5 hx.1; omega)]
    have HC : Hid (Calls Try.prog 28 #[.pointer (some ⟨K.B, 0, none⟩), .slice (some ⟨g, off, none⟩) n cap] W2 fun en W' => en = .returned (toldE (cutC P rule (n : Int) mb)) ∧ StTold w0 K P W (cutP P rule (n : Int) mb) W') := by
      by_cases hn : n = P.n
      · subst hn
        have hc0 : cutC P rule (P.n : Int) mb = 0 := by rw [hc, if_neg (fun hx => hx rfl)]
        refine (cutS_any q1 Hn.out.1 Hn.out.2.1 Hn.out.2.2 _ _ h3).mono fun en W' ⟨h6, h7⟩ => ⟨by rw [hc0]; exact h6, ?_⟩
        unfold cutP
        rw [if_pos hc0]
        exact StTold.pre q2 h7
      · have hc0 : cutC P rule (n : Int) mb = 3 := by rw [hc, if_pos (by omega)]
        refine (cutS_bad q1 hn).mono fun en W' ⟨h6, h7⟩ => ⟨by rw [hc0]; exact h6, ?_⟩
        rw [HNo.out 3 (by decide) hc0]
        exact StTold.pre q2 h7
    clear hc h1 h3 h4 h5 q1 q2 HQ HNo HE Hn
    obtain ⟨ve, hve⟩ : ∃ ve, toldE (cutC P rule (n : Int) mb) = ve := ⟨_, rfl⟩
    rw [hve] at HC
    have HV := hideIt hve
    clear hve
    go_wp2_with fail
    refine HC.out.mono ?_
    rintro e W3 ⟨rfl, hT⟩
    have HT := hideIt hT
    clear hT HC
    go_wp2
    go_ret
    exact ⟨by rw [HV.out]; rfl, HT.out⟩

end
end Go.Proofs.Ytncnojgemmcplaa
