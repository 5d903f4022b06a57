/-
  The statement's own moves of the document's store: walked.
  The document's store, walked: NewStore.
-/
import Derived.Test.YtncnojgemmcplaaGreatDoorStBZ
import Derived.Test.YtncnojgemmcplaaGreatDoorDwL
import Derived.Test.YtncnojgemmcplaaGreatDoorDxEZ
import Derived.Test.YtncnojgemmcplaaGreatDoorDwKZ
import Derived.Test.YtncnojgemmcplaaGreatDoorNwWZ
import Derived.Test.YtncnojgemmcplaaGreatDoorSmQZ
import Derived.Deep.RegionWith
namespace Go.Proofs.YtncnojgemmcplaaGreatDoor.St.Dc
open Go.RowKit

section
variable {w0 W W' W1 : World} {K : DoK} {S S' : Sto}
theorem DoTold.pre {c : Nat} (hb : Below W.heap.size W W1) (h : DoTold c w0 K S W1 S' W') : DoTold c w0 K S W S' W' := by
  obtain ⟨K', a, b, d, e⟩ := h
  exact ⟨K', a, b, d, (DFr.below hb).trans e⟩
theorem DoTold.more {c d : Nat} (hc : c ≤ d) (h : DoTold c w0 K S W S' W') : DoTold d w0 K S W S' W' := by
  obtain ⟨K', a, b, d, e⟩ := h
  exact ⟨K', a, b, by omega, e⟩
theorem dcast {c : Nat} {S1 S2 : Sto} (h : DoTold c w0 K S W S1 W') (e : S1 = S2) : DoTold c w0 K S W S2 W' := e ▸ h
def mvD (m : Mvs) : Value := .agg #[.int .i64 m.what, .int .i64 m.a, .int .i64 m.b, .int .i64 m.c]
set_option maxRecDepth 100000 in
set_option maxHeartbeats 16000000 in
theorem moveD_any (h : DoR w0 W K S) (hp : DoPl K S) (hO : DlvOk S) (h1 : 1 ≤ S.n) (hs : S.seen.length ≤ 900) (h5 : K.L.length ≤ 500) (hl : K.lt.length ≤ 39000) (m : Mvs) (nodes : Int) :
    Calls Tryz.prog 10 #[.pointer (some ⟨K.B, 0, none⟩), mvD m, .int .i64 nodes] W fun e w' => e = .returned (.int .i64 (playE S m)) ∧ DoTold 7 w0 K S W (playS S m) w' := by
  obtain ⟨what, ma, mb, mc⟩ := m
  unfold mvD
  have h7 := hO.n7
  have h8 := hO.k8
  have hB := belA (Below.refl W.heap.size W) (.cells #[.int .i64 what, .int .i64 ma, .int .i64 mb, .int .i64 mc] 35)
  have HB := hideIt hB
  have HK0 := hideIt h
  have HP := hideIt (h.below hB)
  have HL := hideIt hp
  have HO := hideIt hO
  have hml : S.mails.length ≤ 500 := by rw [hp.len]; exact h5
  have HML := hideIt hml
  have hBz := h.ltB
  clear h hp hO hB hml
  by_cases e0 : what = 0
  · have hE : playE S ⟨what, ma, mb, mc⟩ = beginE S ma mb false mc := by unfold playE; simp only [if_pos e0]
    have hS : playS S ⟨what, ma, mb, mc⟩ = if beginE S ma mb false mc ≠ 0 then S else beginS S ma mb false mc := by unfold playS; rw [hE]; simp only [if_pos e0]
    have HC := hideIt (beginD_any HP.out HL.out h7 h8 hs (fun i hi => (HO.out.cl i hi).1) HML.out (by omega) ma mb false mc)
    have HS := hideIt hS
    rw [hE]
    clear hE hS
    generalize beginE S ma mb false mc = ve at HC HS ⊢
    subst e0
    clear HK0 HP HL HO h1 h5 h7 h8 hs hl
    go_enter Tryz.func10, Tryz.ntmps10
    go_wp2_with fail
    refine HC.out.mono ?_
    rintro e W2 ⟨rfl, hT⟩
    have HT := hideIt (dcast (DoTold.more (Nat.le_refl _) (DoTold.pre HB.out hT)) HS.out.symm)
    clear hT HC HB HS
    go_wp2
    go_ret
    exact ⟨rfl, HT.out⟩
  have n0 : (what == 0) = false := by simp [e0]
  by_cases e1 : what = 1
  · have hE : playE S ⟨what, ma, mb, mc⟩ = beginE S ma mb true mc := by unfold playE; simp only [if_neg e0, if_pos e1]
    have hS : playS S ⟨what, ma, mb, mc⟩ = if beginE S ma mb true mc ≠ 0 then S else beginS S ma mb true mc := by unfold playS; rw [hE]; simp only [if_neg e0, if_pos e1]
    have HC := hideIt (beginD_any HP.out HL.out h7 h8 hs (fun i hi => (HO.out.cl i hi).1) HML.out (by omega) ma mb true mc)
    have HS := hideIt hS
    rw [hE]
    clear hE hS
    generalize beginE S ma mb true mc = ve at HC HS ⊢
    subst e1
    clear HK0 HP HL HO h1 h5 h7 h8 hs hl
    go_enter Tryz.func10, Tryz.ntmps10
    go_wp2_with fail
    refine HC.out.mono ?_
    rintro e W2 ⟨rfl, hT⟩
    have HT := hideIt (dcast (DoTold.more (Nat.le_refl _) (DoTold.pre HB.out hT)) HS.out.symm)
    clear hT HC HB HS
    go_wp2
    go_ret
    exact ⟨rfl, HT.out⟩
  have n1 : (what == 1) = false := by simp [e1]
  by_cases e2 : what = 2
  · have hE : playE S ⟨what, ma, mb, mc⟩ = takeE S ma := by unfold playE; simp only [if_neg e0, if_neg e1, if_pos e2]
    have hS : playS S ⟨what, ma, mb, mc⟩ = if takeE S ma ≠ 0 then S else delivS S ma := by unfold playS; rw [hE]; simp only [if_neg e0, if_neg e1, if_pos e2]
    have HC := hideIt (deliverD_any HP.out HL.out hs HO.out h5 hl ma)
    have HS := hideIt hS
    rw [hE]
    clear hE hS
    generalize takeE S ma = ve at HC HS ⊢
    subst e2
    clear HK0 HP HL HO h1 h5 h7 h8 hs hl
    go_enter Tryz.func10, Tryz.ntmps10
    go_wp2_with fail
    refine HC.out.mono ?_
    rintro e W2 ⟨rfl, hT⟩
    have HT := hideIt (dcast (DoTold.more (Nat.le_refl _) (DoTold.pre HB.out hT)) HS.out.symm)
    clear hT HC HB HS
    go_wp2
    go_ret
    exact ⟨rfl, HT.out⟩
  have n2 : (what == 2) = false := by simp [e2]
  by_cases e3 : what = 3
  · have hE : playE S ⟨what, ma, mb, mc⟩ = dropE S ma := by unfold playE; simp only [if_neg e0, if_neg e1, if_neg e2, if_pos e3]
    have hS : playS S ⟨what, ma, mb, mc⟩ = if dropE S ma ≠ 0 then S else { S with mails := S.mails.eraseIdx ma.toNat } := by unfold playS; rw [hE]; simp only [if_neg e0, if_neg e1, if_neg e2, if_pos e3]
    have HC := hideIt (dropD_any HP.out HL.out h5 ma)
    have HS := hideIt hS
    rw [hE]
    clear hE hS
    generalize dropE S ma = ve at HC HS ⊢
    subst e3
    clear HK0 HP HL HO h1 h5 h7 h8 hs hl
    go_enter Tryz.func10, Tryz.ntmps10
    go_wp2_with fail
    refine HC.out.mono ?_
    rintro e W2 ⟨rfl, hT⟩
    have HT := hideIt (dcast (DoTold.more (show 0 ≤ 7 by decide) (DoTold.pre HB.out hT)) HS.out.symm)
    clear hT HC HB HS
    go_wp2
    go_ret
    exact ⟨rfl, HT.out⟩
  have n3 : (what == 3) = false := by simp [e3]
  by_cases e4 : what = 4
  · have hE : playE S ⟨what, ma, mb, mc⟩ = doubE S ma := by unfold playE; simp only [if_neg e0, if_neg e1, if_neg e2, if_neg e3, if_pos e4]
    have hS : playS S ⟨what, ma, mb, mc⟩ = if doubE S ma ≠ 0 then S else doubS S ma := by unfold playS; rw [hE]; simp only [if_neg e0, if_neg e1, if_neg e2, if_neg e3, if_pos e4]
    have HC := hideIt (doubD_any HP.out HL.out h5 ma)
    have HS := hideIt hS
    rw [hE]
    clear hE hS
    generalize doubE S ma = ve at HC HS ⊢
    subst e4
    clear HK0 HP HL HO h1 h5 h7 h8 hs hl
    go_enter Tryz.func10, Tryz.ntmps10
    go_wp2_with fail
    refine HC.out.mono ?_
    rintro e W2 ⟨rfl, hT⟩
    have HT := hideIt (dcast (DoTold.more (show 0 ≤ 7 by decide) (DoTold.pre HB.out hT)) HS.out.symm)
    clear hT HC HB HS
    go_wp2
    go_ret
    exact ⟨rfl, HT.out⟩
  have n4 : (what == 4) = false := by simp [e4]
  by_cases e5 : what = 5
  · have hE : playE S ⟨what, ma, mb, mc⟩ = giveE S ma := by unfold playE; simp only [if_neg e0, if_neg e1, if_neg e2, if_neg e3, if_neg e4, if_pos e5]
    have hS : playS S ⟨what, ma, mb, mc⟩ = if giveE S ma ≠ 0 then S else giveS S ma := by unfold playS; rw [hE]; simp only [if_neg e0, if_neg e1, if_neg e2, if_neg e3, if_neg e4, if_pos e5]
    have HC := hideIt (giveD_any HP.out HL.out (by omega) ma)
    have HS := hideIt hS
    rw [hE]
    clear hE hS
    generalize giveE S ma = ve at HC HS ⊢
    subst e5
    clear HK0 HP HL HO h1 h5 h7 h8 hs hl
    go_enter Tryz.func10, Tryz.ntmps10
    go_wp2_with fail
    refine HC.out.mono ?_
    rintro e W2 ⟨rfl, hT⟩
    have HT := hideIt (dcast (DoTold.more (show 0 ≤ 7 by decide) (DoTold.pre HB.out hT)) HS.out.symm)
    clear hT HC HB HS
    go_wp2
    go_ret
    exact ⟨rfl, HT.out⟩
  have n5 : (what == 5) = false := by simp [e5]
  by_cases e6 : what = 6
  · have hE : playE S ⟨what, ma, mb, mc⟩ = 0 := by unfold playE; simp only [if_neg e0, if_neg e1, if_neg e2, if_neg e3, if_neg e4, if_neg e5, if_pos e6]
    have hS : playS S ⟨what, ma, mb, mc⟩ = { S with links := fun _ _ => true } := by unfold playS; rw [hE]; simp only [if_neg e0, if_neg e1, if_neg e2, if_neg e3, if_neg e4, if_neg e5, if_pos e6]; rfl
    have HC := hideIt (partD_all HP.out HL.out)
    have HS := hideIt hS
    rw [hE]
    clear hE hS
    subst e6
    clear HK0 HP HL HO h1 h5 h7 h8 hs hl
    go_enter Tryz.func10, Tryz.ntmps10
    go_wp2_with fail
    refine HC.out.mono ?_
    rintro e W2 ⟨rfl, hT⟩
    have HT := hideIt (dcast (DoTold.more (show 0 ≤ 7 by decide) (DoTold.pre HB.out hT)) HS.out.symm)
    clear hT HC HB HS
    go_wp2
    go_ret
    exact ⟨rfl, HT.out⟩
  have n6 : (what == 6) = false := by simp [e6]
  have HE : Hid (playE S ⟨what, ma, mb, mc⟩ = cutE S (ruleOf ⟨what, ma, mb, mc⟩) ma mb) := by
    show playE S ⟨what, ma, mb, mc⟩ = cutE S (ruleOf ⟨what, ma, mb, mc⟩) ma mb
    unfold playE; simp only [if_neg e0, if_neg e1, if_neg e2, if_neg e3, if_neg e4, if_neg e5, if_neg e6]
  have HS : Hid (playS S ⟨what, ma, mb, mc⟩ = if cutE S (ruleOf ⟨what, ma, mb, mc⟩) ma mb ≠ 0 then S else { S with links := cutL S.n S.k (ruleOf ⟨what, ma, mb, mc⟩) mb }) := by
    show _ = _
    have := HE.out
    unfold playS
    rw [this]
    simp only [if_neg e0, if_neg e1, if_neg e2, if_neg e3, if_neg e4, if_neg e5, if_neg e6]
  have HRu : Hid (ruleOf ⟨what, ma, mb, mc⟩ = if 7 ≤ what ∧ what ≤ 10 then what - 7 else 4) := rfl
  generalize ruleOf ⟨what, ma, mb, mc⟩ = rule at HE HS HRu
  have HRes : Hid (∀ (e : Ending) (w' : World) (c : Int), cutE S rule ma mb = c → e = .returned (.int .i64 c) → (c ≠ 0 → Below W.heap.size W w' ∨ DoTold 7 w0 K S W S w') → (c = 0 → DoTold 7 w0 K S W { S with links := cutL S.n S.k rule mb } w') → (e = .returned (.int .i64 (playE S ⟨what, ma, mb, mc⟩)) ∧ DoTold 7 w0 K S W (playS S ⟨what, ma, mb, mc⟩) w')) := by
    intro e w' c hc he h1 h2
    have a1 := HE.out
    have a2 := HS.out
    rw [a1, a2, hc]
    refine ⟨he, ?_⟩
    by_cases hz : c = 0
    · rw [if_neg (fun hn => hn hz)]; exact h2 hz
    · rw [if_pos hz]
      rcases h1 hz with hb | hb
      · exact ⟨K, HK0.out.below hb, HL.out, Nat.le_add_right _ _, DFr.below hb⟩
      · exact hb
  have HPa : Hid (∀ (Z : World) (lv : Value), Below (W.alloc (.cells #[.int .i64 what, .int .i64 ma, .int .i64 mb, .int .i64 mc] 35)).heap.size (W.alloc (.cells #[.int .i64 what, .int .i64 ma, .int .i64 mb, .int .i64 mc] 35)) Z → ∀ (n : Nat) (a : Option Addr) (c : Nat), 1 ≤ n → (n : Int) = ma → ¬ (rule = 4 ∧ (mb < 0 ∨ (n : Int) ≤ mb)) → lv = .slice a n c → n ≤ 7 → LnkT Z lv (tabM n n fun i j => linkedB rule n mb i j) → Calls Tryz.prog 37 #[.pointer (some ⟨K.B, 0, none⟩), .bool false, lv] Z fun e w' => ∃ c : Int, e = .returned (.int .i64 c) ∧ cutE S rule ma mb = c ∧ (c ≠ 0 → DoTold 7 w0 K S W S w') ∧ (c = 0 → DoTold 7 w0 K S W { S with links := cutL S.n S.k rule mb } w')) := by
    intro Z lv hZ n a c hn hma hr hlv hn7 hl
    have hbZ := belJ HB.out hZ
    have hR := HK0.out.below hbZ
    by_cases e : n = S.n
    · subst e
      refine (partD_any hR HL.out h1 h7 h8 (fun i j => linkedB rule S.n mb i j) lv hl).mono ?_
      rintro x w' ⟨rfl, hT⟩
      refine ⟨0, rfl, by unfold cutE; rw [← hma, if_neg (by omega), if_neg (by omega), if_neg (by omega)], fun h => absurd rfl h, fun _ => ?_⟩
      refine dcast (DoTold.more (show 0 ≤ 7 by decide) (DoTold.pre hbZ hT)) ?_
      congr 1
      funext a b
      exact (cutL_tab S.n S.k rule mb a b).symm
    · rw [hlv]
      refine (partD_bad hR HL.out e).mono ?_
      rintro x w' ⟨rfl, hT⟩
      exact ⟨3, rfl, by unfold cutE; rw [← hma, if_neg (by omega), if_neg (by omega), if_pos (by omega)], fun _ => DoTold.more (show 0 ≤ 7 by decide) (DoTold.pre hbZ hT), fun h => absurd h (by decide)⟩
  have hcell := fun i => cell_of_row (W.alloc (.cells #[.int .i64 what, .int .i64 ma, .int .i64 mb, .int .i64 mc] 35)) W.heap.size i _ 35 _ (heap_alloc_new W _)
  have HMv : Hid (∀ Z, Below (W.alloc (.cells #[.int .i64 what, .int .i64 ma, .int .i64 mb, .int .i64 mc] 35)).heap.size (W.alloc (.cells #[.int .i64 what, .int .i64 ma, .int .i64 mb, .int .i64 mc] 35)) Z → Z.cell? ⟨W.heap.size, 1, none⟩ = some (.int .i64 ma) ∧ Z.cell? ⟨W.heap.size, 2, none⟩ = some (.int .i64 mb)) := fun Z hZ =>
    ⟨(hZ.cell (p := ⟨W.heap.size, 1, none⟩) (by simp)).trans (by rw [hcell]; rfl), (hZ.cell (p := ⟨W.heap.size, 2, none⟩) (by simp)).trans (by rw [hcell]; rfl)⟩
  clear hcell HP HL HO HK0 h1 h5 h7 h8 hs hl hBz HML HE HS
  obtain ⟨W1, hW1⟩ : ∃ W1, W.alloc (.cells #[.int .i64 what, .int .i64 ma, .int .i64 mb, .int .i64 mc] 35) = W1 := ⟨_, rfl⟩
  rw [hW1] at HB HPa HMv
  have hq0 : W1.cell? ⟨W.heap.size, 0, none⟩ = some (.int .i64 what) := by rw [← hW1, cell_of_row _ _ _ _ 35 _ (heap_alloc_new W _)]; rfl
  have hW1s := hideIt hW1
  clear hW1
  obtain ⟨hq1, hq2⟩ := HMv.out W1 (Below.refl _ _)
  go_enter Tryz.func10, Tryz.ntmps10
  go_upto_region 16 with fail
  rw [hW1s.out]
  go_cut [63] from 56 to 63 (fun v wx => v = .bool (decide (7 ≤ what ∧ what ≤ 10)) ∧ wx = W1)
  case first =>
    clear HB HRes HPa HMv hq1 hq2
    by_cases hw1 : what ≥ 7
    · by_cases hw2 : what ≤ 10
      · have hd : decide (7 ≤ what ∧ what ≤ 10) = true := decide_eq_true ⟨hw1, hw2⟩
        go_wp2_with fail
        go_meet
        exact ⟨by rw [hd], rfl⟩
      · have hd : decide (7 ≤ what ∧ what ≤ 10) = false := decide_eq_false (fun h => hw2 h.2)
        go_wp2_with fail
        go_meet
        exact ⟨by rw [hd], rfl⟩
    · have hd : decide (7 ≤ what ∧ what ≤ 10) = false := decide_eq_false (fun h => hw1 h.1)
      go_wp2_with fail
      go_meet
      exact ⟨by rw [hd], rfl⟩
  case rest =>
  obtain ⟨hv9, hw9⟩ := hcut
  replace hw9 := hw9.symm
  subst hw9 hv9
  go_upto_if 63 with fail
  go_cut [7] from 63 to 66 (fun v wx => v = .int .i64 rule ∧ wx = W1)
  case first =>
    clear HB HRes HPa HMv hq1 hq2
    by_cases hw : 7 ≤ what ∧ what ≤ 10
    · have hr : rule = what - 7 := by have := HRu.out; rw [if_pos hw] at this; exact this
      have hwr : IntKind.i64.wrap (what - 7) = what - 7 := IntWalk.i64_in _ (by omega)
      rw [decide_eq_true hw]
      clear hw
      subst hr
      go_wp2_with fail
      go_meet
      exact ⟨rfl, rfl⟩
    · have hr : rule = 4 := by have := HRu.out; rw [if_neg hw] at this; exact this
      rw [decide_eq_false hw]
      clear hw
      subst hr
      go_wp2_with fail
      go_meet
      exact ⟨rfl, rfl⟩
  case rest =>
  obtain ⟨rfl, hw9⟩ := hcut
  replace hw9 := hw9.symm
  subst hw9
  clear hq0 HRu e0 e1 e2 e3 e4 e5 e6 n0 n1 n2 n3 n4 n5 n6 hW1s
  by_cases hb1 : ma < 1
  · have hc : cutE S rule ma mb = 4 := by unfold cutE; rw [if_pos (.inl hb1)]
    have HR := hideIt (HRes.out (.returned (.int .i64 4)) W1 4 hc rfl (fun _ => .inl HB.out) (fun e => absurd e (by decide)))
    clear hc HRes HPa HMv HB
    go_wp2
    go_ret
    exact HR.out
  by_cases hb2 : ma > 7
  · have hc : cutE S rule ma mb = 4 := by unfold cutE; rw [if_pos (.inr hb2)]
    have HR := hideIt (HRes.out (.returned (.int .i64 4)) W1 4 hc rfl (fun _ => .inl HB.out) (fun e => absurd e (by decide)))
    clear hc HRes HPa HMv HB
    go_wp2
    go_ret
    exact HR.out
  obtain ⟨n, rfl⟩ : ∃ n : Nat, ma = n := ⟨ma.toNat, by omega⟩
  by_cases hr4 : rule = 4 ∧ (mb < 0 ∨ (n : Int) ≤ mb)
  · have hc : cutE S rule n mb = 2 := by unfold cutE; rw [if_neg (by omega), if_pos hr4]
    have HR := hideIt (HRes.out (.returned (.int .i64 2)) W1 2 hc rfl (fun _ => .inl HB.out) (fun e => absurd e (by decide)))
    obtain ⟨rfl, hr4⟩ := hr4
    clear hc HRes HPa HMv HB
    rcases hr4 with hm | hm
    · go_wp2
      go_ret
      exact HR.out
    · have hm0 : ¬ mb < 0 := by omega
      have hm1 : mb ≥ (n : Int) := hm
      go_wp2
      go_ret
      exact HR.out
  have HR4 := hideIt hr4
  go_upto_region 20 with fail
  go_cut [88] from 75 to 88 (fun v wx => v = .bool false ∧ wx = W1)
  case first =>
    clear HB HRes HPa HMv
    by_cases r4 : rule = 4
    · have hm0 : ¬ mb < 0 := fun h => HR4.out ⟨r4, .inl h⟩
      have hm1 : ¬ mb ≥ (n : Int) := fun h => HR4.out ⟨r4, .inr h⟩
      subst r4
      clear hr4
      go_wp2_with fail
      go_meet
      exact ⟨rfl, rfl⟩
    · have r4' : (rule == 4) = false := by simp [r4]
      clear hr4
      go_wp2_with fail
      go_meet
      exact ⟨rfl, rfl⟩
  case rest =>
  obtain ⟨rfl, hw9⟩ := hcut
  replace hw9 := hw9.symm
  subst hw9
  clear hr4
  have hn : 1 ≤ n ∧ n ≤ 7 := by omega
  clear hb1 hb2 hq1 hq2
  obtain ⟨i0, hi, hz0, hz1, hz2⟩ := info_parts' infoB
  obtain ⟨i1, hi', hz0', hz1', hz2'⟩ := info_parts' info46
  have HLk : Hid (∀ (Z : World) (a b : Nat), a < n → b < n → Calls Tryz.prog 38 #[.int .i64 rule, .int .i64 (n : Int), .int .i64 mb, .int .i64 (a : Int), .int .i64 (b : Int)] Z fun e w' => e = .returned (.bool (linkedB rule n mb a b)) ∧ w' = Z) := fun Z a b ha hb => linked_any rule n mb a b (by omega) (by omega) (by omega) Z
  have HRd : Hid (∀ a b : Nat, linkedB rule n mb a b = (fun i j : Nat => linkedB rule n mb i j) a b) := fun _ _ => rfl
  generalize hR0 : (fun i j : Nat => linkedB rule n mb i j) = R at HRd
  have HPb : Hid (∀ (Z : World) (a : Option Addr) (c : Nat), Below W1.heap.size W1 Z → LnkT Z (.slice a n c) (tabM n n R) → Calls Tryz.prog 37 #[.pointer (some ⟨K.B, 0, none⟩), .bool false, .slice a n c] Z fun e w' => e = .returned (.int .i64 (playE S ⟨what, n, mb, mc⟩)) ∧ DoTold 7 w0 K S W (playS S ⟨what, n, mb, mc⟩) w') := fun Z a c hZ hl => (HPa.out Z _ hZ n a c (by omega) rfl HR4.out rfl (by omega) (by rw [hR0]; exact hl)).mono fun e w' ⟨c, h1, h2, h3, h4⟩ => by
    have := HRes.out e w' c h2 h1 (fun hz => .inr (h3 hz)) h4
    exact ⟨this.1, this.2⟩
  obtain ⟨ve, hve⟩ : ∃ ve, playE S ⟨what, n, mb, mc⟩ = ve := ⟨_, rfl⟩
  obtain ⟨S9, hS9⟩ : ∃ S9, playS S ⟨what, n, mb, mc⟩ = S9 := ⟨_, rfl⟩
  rw [hve, hS9] at HPb
  have HVe := hideIt hve
  have HS9 := hideIt hS9
  clear hve hS9
  clear HPa HRes HR4 HB hR0
  go_wp2
  go_loopw [8, 9] (fun l v wr => ∃ m : Nat, m ≤ n ∧ v = .int .i64 m ∧ TbG wr W1.heap.size l m n R ∧ Below W1.heap.size W1 wr) (fun _ v _ => n - (intOf v).toNat)
  case atStart => exact ⟨0, Nat.zero_le _, rfl, TbG.nil _ _ _ _, Below.refl _ _⟩
  case round =>
    obtain ⟨m, hm, rfl, hT, hb⟩ := hrel
    have HT := hideIt hT
    have HB := hideIt hb
    obtain ⟨la, lc, hls⟩ := hT.slice
    subst hls
    have hsz := hb.size
    clear hT hb
    obtain ⟨q1, q2⟩ := HMv.out wr HB.out
    by_cases hmn : m < n
    · have hmn' : (m : Int) < (n : Int) := by omega
      go_wp2
      clear q1 q2
      generalize hwq : wr = wq at *
      clear hwq
      go_loopw [10, 11] (fun rv v wz => ∃ k : Nat, k ≤ n ∧ v = .int .i64 k ∧ wz.ownsRow wq.heap.size 4 1 rv k (bitR k (R m)) ∧ Below wq.heap.size wq wz) (fun _ v _ => n - (intOf v).toNat)
      case atStart => exact ⟨0, Nat.zero_le _, rfl, World.ownsRow_nil _ _ _ _, Below.refl _ _⟩
      case round =>
        obtain ⟨k, hk, rfl, hown, hbz⟩ := hrel
        have HO := hideIt hown
        have HZ := hideIt hbz
        have hszz := hbz.size
        obtain ⟨ra, rc, hrv⟩ := ownsRow_slice hown
        subst hrv
        clear hown hbz
        obtain ⟨q1, q2⟩ := HMv.out wr (belJ HB.out HZ.out)
        by_cases hkn : k < n
        · have hkn' : (k : Int) < (n : Int) := by omega
          have HC := hideIt (HLk.out wr m k hmn hkn)
          rw [HRd.out] at HC
          have HSu : Hid (bitR (k + 1) (R m) = bitR k (R m) ++ [.bool (R m k)]) := bitR_succ k (R m)
          generalize R m k = x at HC HSu
          go_wp2_with fail
          refine HC.out.mono ?_
          rintro e wr ⟨rfl, rfl⟩
          clear HC
          go_wp2_with (at_builtin; refine wpList_append_own _ rfl _ _ 95 rfl wq.heap.size 4 i0 _ 1 1 Tryz.underlying95 hi hz0 hz1 hz2 rfl (by decide) _ _ _ rfl (HO.out.alloc _) ⟨wr.heap.size, 0, none⟩ 1 1 [.bool x] rfl rfl ?c1 ?c2 ?c3 ?c4 ?c5 ?_)
          case c1 => intro j u hj; exact new_atX (by simp) (by simpa using hj)
          case c2 => intro u hu; simp at hu; subst hu; rfl
          case c3 => unfold maxLen; omega
          case c4 => omega
          case c5 => simp; omega
          intro v2 w4 ho4 hg4 _
          have R1 : Hid (w4.ownsRow wq.heap.size 4 1 v2 (k + 1) (bitR (k + 1) (R m))) := by
            show w4.ownsRow wq.heap.size 4 1 v2 (k + 1) (bitR (k + 1) (R m))
            rw [HSu.out]; exact ho4
          have R2 : Hid (Below wq.heap.size wq w4) := (belA HZ.out _).grown hg4 (by simp; omega) (fun g hg => (HO.out.lt g hg).1)
          clear ho4 hg4 q1 q2
          go_wp2
          go_roundw
          case rel => exact ⟨k + 1, by omega, by go_num, R1.out, R2.out⟩
          case measure => simp [intOf]; omega
        · obtain rfl : k = n := by omega
          have hTz := HT.out.below HZ.out
          obtain ⟨rows, h0, h1, hpush⟩ := hTz.rows (x := .slice ra k rc) (own_mono HO.out (by omega))
          have HPu := hideIt hpush
          have HR1 := hideIt h1
          clear hpush h1 h0 hTz
          go_wp2_with (at_builtin; refine wpList_append_own _ rfl _ _ 48 rfl W1.heap.size 95 i1 _ 1 24 Tryz.underlying48 hi' hz0' hz1' hz2' rfl (by decide) _ _ _ rfl (HR1.out.alloc _) ⟨wr.heap.size, 0, none⟩ 1 1 [.slice ra k rc] rfl rfl ?c1 ?c2 ?c3 ?c4 ?c5 ?_)
          case c1 => intro j u hj; exact new_atX (by simp) (by simpa using hj)
          case c2 => intro u hu; simp at hu; subst hu; rfl
          case c3 => unfold maxLen; omega
          case c4 => omega
          case c5 => simp; omega
          intro v2 w4 ho4 hg4 _
          have hgW := grown_pre (belA (Below.refl _ wr) _) hg4
          have R1 := hideIt (HPu.out w4 _ ho4 hgW)
          have R2 : Hid (Below W1.heap.size W1 w4) := (belJ HB.out HZ.out).grown hgW (by omega) (fun g hg => (ownsRow_block HR1.out g hg).1)
          clear hgW ho4 hg4 HPu HR1 q1 q2
          go_wp2
          go_roundw
          case rel => exact ⟨m + 1, by omega, by go_num, R1.out, R2.out⟩
          case measure => simp [intOf]; omega
    · obtain rfl : m = n := by omega
      have HC := hideIt (HPb.out wr la lc HB.out HT.out.links)
      clear HPb HT
      go_wp2_with fail
      refine HC.out.mono ?_
      rintro e w5 ⟨rfl, h5⟩
      have H5 := hideIt h5
      clear h5 HC
      go_wp2
      go_ret
      exact ⟨by rw [HVe.out]; rfl, by rw [HS9.out]; exact H5.out⟩
end
end Go.Proofs.YtncnojgemmcplaaGreatDoor.St.Dc

namespace Go.Proofs.YtncnojgemmcplaaGreatDoor.St.Dc
open Go.RowKit

theorem infoCl : (Tryz.prog.info? 107).map (fun i => (i.zero, i.size, i.bytes)) = some (some (.agg #[.bool false, .bool false, .bool false, .bool false, .int .i64 0, .int .i64 0, .int .i64 0, .int .i64 0, .int .i64 0, .int .i64 0, .slice none 0 0]), 11, 80) := by kernel_rfl
def clD (n : Nat) : Array Value := madeCells #[.bool false, .bool false, .bool false, .bool false, .int .i64 0, .int .i64 0, .int .i64 0, .int .i64 0, .int .i64 0, .int .i64 0, .slice none 0 0] (n * 11)
theorem made_clD (w : World) (n : Nat) (hn : n ≤ 60) : (Instr.makeSlice 54 (.int .i64 (n : Int)) (.int .i64 (n : Int))).run Tryz.prog w = .ok (.slice (some ⟨w.heap.size, 0, none⟩) n n) (w.alloc (.cells (clD n) 107)) := by
  obtain ⟨i, hi, hz, hs, hb⟩ := info_parts' infoCl
  have := run_make (P := Tryz.prog) w 54 107 i _ Tryz.underlying54 hi hz .i64 .i64 (n : Int) (n : Int) (by omega) (Int.le_refl _) (by rw [hb]; omega) (by omega)
  rw [hs, Int.toNat_natCast] at this
  exact this
theorem clD_at (n : Nat) {i j : Nat} (hi : i < n) (hj : j < 11) : (clD n)[i * 11 + j]? = (#[.bool false, .bool false, .bool false, .bool false, .int .i64 0, .int .i64 0, .int .i64 0, .int .i64 0, .int .i64 0, .int .i64 0, .slice none 0 0] : Array Value)[j]? := by
  unfold clD madeCells
  have h1 : i * 11 + j < n * 11 := by omega
  have h2 : (i * 11 + j) % 11 = j := by omega
  rw [Array.getElem?_map, Array.getElem?_range, if_pos h1]
  show some ((#[.bool false, .bool false, .bool false, .bool false, .int .i64 0, .int .i64 0, .int .i64 0, .int .i64 0, .int .i64 0, .int .i64 0, .slice none 0 0] : Array Value)[(i * 11 + j) % 11]!) = _
  rw [h2]
  have h3 : j < (#[.bool false, .bool false, .bool false, .bool false, .int .i64 0, .int .i64 0, .int .i64 0, .int .i64 0, .int .i64 0, .int .i64 0, .slice none 0 0] : Array Value).size := hj
  rw [getElem!_pos _ j h3, Array.getElem?_eq_getElem h3]
def doK0 (B C M : Nat) : DoK := ⟨B, C, M, .slice none 0 0, .slice none 0 0, .slice none 0 0, .slice none 0 0, .slice none 0 0, fun _ => .slice none 0 0, false, [], [], [], fun _ _ => none⟩
theorem doR_new {w V : World} {B C M n k ask tell : Nat} {back : Bool} (hb : Below w.heap.size w V) (hB : V.heap[B]? = some (doO (doK0 B C M) (sto0 n k ask tell back))) (hC : V.heap[C]? = some (.cells (clD k) 107)) (hM : MapK Tryz.prog 145 hdV V M (fun _ _ => none)) (h1 : w.heap.size ≤ B) (h2 : w.heap.size ≤ C) (h3 : w.heap.size ≤ M) : DoR w V (doK0 B C M) (sto0 n k ask tell back) ∧ DoPl (doK0 B C M) (sto0 n k ask tell back) := by
  have hcl : ∀ i j, i < k → j < 11 → V.cell? ⟨C, i * 11 + j, none⟩ = (#[.bool false, .bool false, .bool false, .bool false, .int .i64 0, .int .i64 0, .int .i64 0, .int .i64 0, .int .i64 0, .int .i64 0, .slice none 0 0] : Array Value)[j]? := fun i j hi hj => by
    rw [cell_of_row _ _ _ _ 107 _ hC]
    exact clD_at k hi hj
  refine ⟨⟨hb, fun p hp => ?_, fun e => by (cases e), fun i j _ _ _ b e => by (cases e)⟩, ⟨rfl, fun m hm => by (cases hm), fun _ _ => rfl, fun a b e => by (cases e), fun _ _ => rfl⟩⟩
  cases p with
  | B => exact ⟨hB, h1⟩
  | C => exact ⟨⟨_, hC⟩, fun i hi => ⟨hcl i 0 hi (by decide), hcl i 1 hi (by decide), hcl i 2 hi (by decide), hcl i 3 hi (by decide), hcl i 4 hi (by decide), hcl i 5 hi (by decide), hcl i 6 hi (by decide), ⟨hcl i 7 hi (by decide), hcl i 8 hi (by decide), hcl i 9 hi (by decide)⟩, hcl i 10 hi (by decide)⟩, h2⟩
  | M => exact ⟨hM, h3⟩
  | vm => exact ⟨rfl, .inl ⟨rfl, rfl⟩⟩
  | vl => exact ⟨rfl, .inl ⟨rfl, rfl⟩⟩
  | ve => exact ⟨rfl, .inl ⟨rfl, rfl⟩⟩
  | vs => exact ⟨rfl, .inl ⟨rfl, rfl⟩⟩
  | cv i => exact ⟨rfl, .inl ⟨rfl, rfl⟩⟩
/-- What NewStore tells. -/
def NewTold (n k ask tell : Nat) (back : Bool) (w : World) (e : Ending) (w' : World) : Prop := ∃ B C M, e = .returned (.pointer (some ⟨B, 0, none⟩)) ∧ DoR w w' (doK0 B C M) (sto0 n k ask tell back) ∧ DoPl (doK0 B C M) (sto0 n k ask tell back)
set_option maxRecDepth 100000 in
set_option maxHeartbeats 4000000 in
theorem newD_any (n k ask tell : Nat) (back : Bool) (hk : k ≤ 8) (w : World) : Calls Tryz.prog 7 #[.agg #[.int .i64 (n : Int), .int .i64 (k : Int), .int .i64 (ask : Int), .int .i64 (tell : Int), .bool back]] w (NewTold n k ask tell back w) := by
  have mkC : ∀ Z, (Instr.makeSlice 54 (.int .i64 (k : Int)) (.int .i64 (k : Int))).run Tryz.prog Z = .ok (.slice (some ⟨Z.heap.size, 0, none⟩) k k) (Z.alloc (.cells (clD k) 107)) := fun Z => made_clD Z k (by omega)
  have mkM : ∀ Z, (Instr.makeMap 53 none).run Tryz.prog Z = .ok (.map (some Z.heap.size)) (Z.alloc (.map #[] 0)) := fun Z => by kernel_rfl
  have hB0 : Below w.heap.size w (w.alloc (.cells #[.int .i64 (n : Int), .int .i64 (k : Int), .int .i64 (ask : Int), .int .i64 (tell : Int), .bool back] 33)) := belA (Below.refl _ w) _
  have HB0 := hideIt hB0
  have hs := World.size_alloc w (.cells #[.int .i64 (n : Int), .int .i64 (k : Int), .int .i64 (ask : Int), .int .i64 (tell : Int), .bool back] 33)
  have HS := hideIt hs
  have HF : Hid (∀ (V : World) (B C M : Nat), Below w.heap.size w V → V.heap[B]? = some (doO (doK0 B C M) (sto0 n k ask tell back)) → V.heap[C]? = some (.cells (clD k) 107) → MapK Tryz.prog 145 hdV V M (fun _ _ => none) → w.heap.size ≤ B → w.heap.size ≤ C → w.heap.size ≤ M → NewTold n k ask tell back w (.returned (.pointer (some ⟨B, 0, none⟩))) V) := fun V B C M a b c d e f g => ⟨B, C, M, rfl, (doR_new a b c d e f g).1, (doR_new a b c d e f g).2⟩
  clear hk hB0 hs
  go_enter Tryz.func7, Tryz.ntmps7
  go_upto_region 1 with fail
  go_region
  all_goals go_wp2
  all_goals go_ret
  · refine HF.out _ (w.heap.size + 1 + 1 + 1) (w.heap.size + 1 + 1) (w.heap.size + 1) ?_ ?_ ?_ ?_ (by omega) (by omega) (by omega)
    · exact (belA (belA (belA HB0.out _) _) _).drew
    · have := heap_alloc_new (((w.alloc (.cells #[.int .i64 (n : Int), .int .i64 (k : Int), .int .i64 (ask : Int), .int .i64 (tell : Int), .bool back] 33)).alloc (.map #[] 0)).alloc (.cells (clD k) 107)) (doO (doK0 (w.heap.size + 1 + 1 + 1) (w.heap.size + 1 + 1) (w.heap.size + 1)) (sto0 n k ask tell back))
      rw [World.size_alloc, World.size_alloc, World.size_alloc] at this
      exact this
    · have := heap_alloc_new ((w.alloc (.cells #[.int .i64 (n : Int), .int .i64 (k : Int), .int .i64 (ask : Int), .int .i64 (tell : Int), .bool back] 33)).alloc (.map #[] 0)) (.cells (clD k) 107)
      rw [World.size_alloc, World.size_alloc] at this
      refine (Below.heap_alloc _ _ _ ?_).trans this
      simp
    · have := mapK_made (w.alloc (.cells #[.int .i64 (n : Int), .int .i64 (k : Int), .int .i64 (ask : Int), .int .i64 (tell : Int), .bool back] 33)) Tryz.prog 145 hdV
      rw [World.size_alloc] at this
      exact ((this.alloc _).alloc _).drew
  · refine HF.out _ (w.heap.size + 1 + 1 + 1) (w.heap.size + 1) (w.heap.size + 1 + 1) ?_ ?_ ?_ ?_ (by omega) (by omega) (by omega)
    · exact (belA (belA (belA HB0.out _) _) _).drew
    · have := heap_alloc_new (((w.alloc (.cells #[.int .i64 (n : Int), .int .i64 (k : Int), .int .i64 (ask : Int), .int .i64 (tell : Int), .bool back] 33)).alloc (.cells (clD k) 107)).alloc (.map #[] 0)) (doO (doK0 (w.heap.size + 1 + 1 + 1) (w.heap.size + 1) (w.heap.size + 1 + 1)) (sto0 n k ask tell back))
      rw [World.size_alloc, World.size_alloc, World.size_alloc] at this
      exact this
    · have := heap_alloc_new (w.alloc (.cells #[.int .i64 (n : Int), .int .i64 (k : Int), .int .i64 (ask : Int), .int .i64 (tell : Int), .bool back] 33)) (.cells (clD k) 107)
      rw [World.size_alloc] at this
      refine (Below.heap_alloc _ _ _ ?_).trans ((Below.heap_alloc _ _ _ ?_).trans this)
      · simp
      · simp
    · have := mapK_made ((w.alloc (.cells #[.int .i64 (n : Int), .int .i64 (k : Int), .int .i64 (ask : Int), .int .i64 (tell : Int), .bool back] 33)).alloc (.cells (clD k) 107)) Tryz.prog 145 hdV
      rw [World.size_alloc, World.size_alloc] at this
      exact (this.alloc _).drew
end Go.Proofs.YtncnojgemmcplaaGreatDoor.St.Dc
