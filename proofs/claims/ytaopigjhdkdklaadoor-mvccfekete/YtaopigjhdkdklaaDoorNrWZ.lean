/-
  The program's 'nearest' and 'toward', walked.
  The program's Cycle, walked.
-/
import Derived.Test.YtaopigjhdkdklaaDoorClW
import Derived.WalkSmall
namespace Go.Proofs.YtaopigjhdkdklaaDoor
open Go.RowKit

set_option maxRecDepth 100000 in
set_option maxHeartbeats 4000000 in
theorem nearest_any (n : Nat) (hn : n ≤ 60) (D : Nat → Nat → Nat) (base B : Nat) (rb : Nat → Nat) (w : World) (hM : NumM w base B n n rb D) :
    Calls Tryd.prog 82 #[.slice (some ⟨B, 0, none⟩) n n] w fun e w' => ∃ x, e = .returned (.int .i64 x) ∧ NearT D n x ∧ Below w.heap.size w w' := by
  have HM := hideIt hM
  clear hM
  go_enter Tryd.func82, Tryd.ntmps82
  go_wp2
  go_loopw [3, 8] (fun x v wr => ∃ (k : Nat) (y : Int), k ≤ n ∧ x = .int .i64 y ∧ v = .int .i64 k ∧ NearT D k y ∧ Below w.heap.size w wr) (fun _ v _ => n - (intOf v).toNat)
  case atStart => exact ⟨0, -1, Nat.zero_le _, rfl, rfl, NearT.zero D, Below.refl _ _⟩
  case round =>
    obtain ⟨k, y, hk, rfl, rfl, hN, hb⟩ := hrel
    have HN := hideIt hN
    have HB := hideIt hb
    clear hN hb
    by_cases hkn : k < n
    · have hkn' : (k : Int) < n := by omega
      have hM := HM.out.below HB.out
      have c0 := hM.head k hkn
      have c1 := (hM.row k hkn).num k hkn
      by_cases hd : D k k = 0
      · have R1 := hideIt (HN.out.keep (.inl hd))
        rw [hd] at c1
        clear hM
        go_upto_region 5 with fail
        go_quiet (fail)
        go_wp2
        go_roundw
        case rel => exact ⟨k + 1, y, by omega, rfl, by go_num, R1.out, below_drewN HB.out _⟩
        case measure => simp [intOf]; omega
      · have hd1 : decide (0 < D k k) = true := by simp; omega
        rcases HN.out with ⟨rfl, _⟩ | ⟨b, rfl, hbk, _⟩
        · have R1 := hideIt (HN.out.take (by omega) (.inl rfl))
          generalize D k k = d at c1 hd1
          clear hM
          go_upto_region 5 with fail
          go_quiet (fail)
          go_wp2
          go_roundw
          case rel => exact ⟨k + 1, k, by omega, rfl, by go_num, R1.out, below_drewN HB.out _⟩
          case measure => simp [intOf]; omega
        · have hbn' : (b : Int) < n := by omega
          have d0 := hM.head b (by omega)
          have d1 := (hM.row b (by omega)).num b (by omega)
          have hb1 : ¬ (b : Int) = -1 := by omega
          clear hM
          by_cases hl : D k k < D b b
          · have R1 := hideIt (HN.out.take (by omega) (.inr ⟨b, rfl, hl⟩))
            have hl1 : decide (D k k < D b b) = true := by simp; omega
            generalize D k k = d at c1 hd1 hl1
            generalize D b b = f at d1 hl1
            go_upto_region 5 with fail
            go_quiet (fail)
            go_wp2
            go_roundw
            case rel => exact ⟨k + 1, k, by omega, rfl, by go_num, R1.out, below_drewN HB.out _⟩
            case measure => simp [intOf]; omega
          · have R1 := hideIt (HN.out.keep (.inr ⟨b, rfl, by omega⟩))
            have hl1 : decide (D k k < D b b) = false := by simp; omega
            generalize D k k = d at c1 hd1 hl1
            generalize D b b = f at d1 hl1
            go_upto_region 5 with fail
            go_quiet (fail)
            go_wp2
            go_roundw
            case rel => exact ⟨k + 1, b, by omega, rfl, by go_num, R1.out, below_drewN HB.out _⟩
            case measure => simp [intOf]; omega
    · obtain rfl : k = n := by omega
      go_wp2
      go_ret
      exact ⟨_, rfl, HN.out, HB.out⟩

set_option maxRecDepth 100000 in
set_option maxHeartbeats 4000000 in
theorem toward_any (R : List (List Bool)) (ok : ckG R = 0) (a : Option Addr) (cap : Nat) (w : World) (hg : GrQ w a R) (D : Nat → Nat → Nat) (base B : Nat) (rb : Nat → Nat) (hM : NumM w base B R.length R.length rb D) (x f left : Nat) (hx : x < R.length) (hf : f < R.length) (hex : ∃ y, y < R.length ∧ gB R x y = true ∧ D y f = left) :
    Calls Tryd.prog 83 #[.slice a R.length cap, .slice (some ⟨B, 0, none⟩) R.length R.length, .int .i64 (x : Nat), .int .i64 (f : Nat), .int .i64 (left : Nat)] w fun e w' => ∃ y : Nat, e = .returned (.int .i64 (y : Nat)) ∧ y < R.length ∧ gB R x y = true ∧ D y f = left ∧ (∀ z, z < y → ¬ (gB R x z = true ∧ D z f = left)) ∧ w' = w := by
  have h40 := (ckG_ok ok).1
  obtain ⟨b, off, rfl, hb, gb, go, gc, r0, hgc, hgl, hr⟩ := hg.at ok hx
  have HR := hideIt hr
  have HM := hideIt hM
  have HE := hideIt hex
  have hx' : (x : Int) < R.length := by omega
  have hf' : (f : Int) < R.length := by omega
  clear hr hM hg ok hex
  generalize gB R x = g at HR HE ⊢
  generalize R.length = n at *
  go_enter Tryd.func83, Tryd.ntmps83
  go_wp2
  go_loopw [18] (fun v wr => ∃ k : Nat, k ≤ n ∧ v = .int .i64 k ∧ (∀ z, z < k → ¬ (g z = true ∧ D z f = left)) ∧ wr = w) (fun v _ => n - (intOf v).toNat)
  case atStart => exact ⟨0, Nat.zero_le _, rfl, fun z hz => absurd hz (by omega), rfl⟩
  case round =>
    obtain ⟨k, hk, rfl, ha, rfl⟩ := hrel
    have HA := hideIt ha
    clear ha
    have hkn : k < n := Classical.byContradiction fun h => by
      obtain ⟨y, h1, h2, h3⟩ := HE.out
      exact HA.out y (by omega) ⟨h2, h3⟩
    have hkn' : (k : Int) < n := by omega
    have r1 := HR.out k hkn
    have c0 := HM.out.head k hkn
    have c1 := (HM.out.row k hkn).num f hf
    have HNo : Hid (¬ (g k = true ∧ D k f = left) → ∀ z, z < k + 1 → ¬ (g z = true ∧ D z f = left)) := fun h z hz => by
      by_cases e : z = k
      · subst e; exact h
      · exact HA.out z (by omega)
    by_cases hgk : g k = true
    · by_cases hdk : D k f = left
      · have HY := hideIt (And.intro hgk hdk)
        rw [hgk] at r1
        rw [hdk] at c1
        clear HNo hgk hdk
        go_wp2
        go_ret
        exact ⟨k, rfl, hkn, HY.out.1, HY.out.2, HA.out, rfl⟩
      · have R1 := hideIt (HNo.out fun h => hdk h.2)
        rw [hgk] at r1
        have hne : ¬ ((D k f : Nat) : Int) = (left : Int) := by omega
        generalize D k f = d at c1 hne
        clear HNo hgk hdk
        go_wp2
        go_roundw
        case rel => exact ⟨k + 1, by omega, by go_num, R1.out, by first | rfl | trivial⟩
        case measure => simp [intOf]; omega
    · have R1 := hideIt (HNo.out fun h => hgk h.1)
      have hgk' : g k = false := by simpa using hgk
      rw [hgk'] at r1
      clear HNo hgk hgk' c0 c1
      go_wp2
      go_roundw
      case rel => exact ⟨k + 1, by omega, by go_num, R1.out, by first | rfl | trivial⟩
      case measure => simp [intOf]; omega
end Go.Proofs.YtaopigjhdkdklaaDoor

namespace Go.Proofs.YtaopigjhdkdklaaDoor
open Go.RowKit

/-- What Cycle tells: an error, or the best way round. -/
def cyG (R : List (List Bool)) : Int := if ckG R = 0 then (if (cycD (gB R) R.length).isSome then 0 else 8) else ckG R
def cyL (R : List (List Bool)) : List Nat := if ckG R = 0 then (cycD (gB R) R.length).getD [] else []
def PyTold (R : List (List Bool)) (w : World) (e : Ending) (w' : World) : Prop :=
  ∃ v, e = .returned (.tuple #[v, toldV (cyG R)]) ∧ RowAt w' w.heap.size v (natI (cyL R)) ∧ Below w.heap.size w w'
theorem cyG_best {R : List (List Bool)} (ok : ckG R = 0) {c : List Nat} (h : BestC (gB R) R.length c) : cyG R = 0 ∧ cyL R = c := by
  unfold cyG cyL
  rw [if_pos ok, if_pos ok]
  rcases cycD_spec (gB R) R.length with ⟨d, e, hd⟩ | ⟨_, hno⟩
  · rw [e, h.one hd]; exact ⟨rfl, rfl⟩
  · obtain ⟨x, hx⟩ := best_way h
    exact absurd hx (hno x)
theorem cyG_none {R : List (List Bool)} (ok : ckG R = 0) (h : ∀ x, ¬ Way (gB R) R.length x x) : cyG R = 8 ∧ cyL R = [] := by
  unfold cyG cyL
  rw [if_pos ok, if_pos ok]
  rcases cycD_spec (gB R) R.length with ⟨d, e, hd⟩ | ⟨e, hno⟩
  · obtain ⟨x, hx⟩ := best_way hd
    exact absurd hx (h x)
  · rw [e]; exact ⟨rfl, rfl⟩
theorem near_few {g : Nat → Nat → Bool} {n f : Nat} (hf : f < n) (h0 : 0 < farG g n f f) (hm : ∀ j, j < n → 0 < farG g n j j → farG g n f f ≤ farG g n j j) : farG g n f f ≤ n := by
  obtain ⟨c, hc, hs, _⟩ := cyc_short (wayT_way (far_way hf hf h0))
  have hl := cyc_few hc (cyc_simple hc hs)
  have hp := hc.2.1
  have h1 := cyc_seg hc hp
  have h2 := far_le h1
  have h3 := hm _ h1.lt.1 h2.1
  omega

set_option maxRecDepth 100000 in
set_option maxHeartbeats 8000000 in
theorem gCycle_any (R : List (List Bool)) (a : Option Addr) (cap : Nat) (w : World) (hmax : R.length ≤ maxLen) (hrm : ∀ r ∈ R, r.length ≤ maxLen) (hg : GrQ w a R) :
    Calls Tryd.prog 64 #[.slice a R.length cap] w fun e w' => PyTold R w e w' := by
  have HC := hideIt (gCheck_any R a cap w hmax hrm hg)
  by_cases ok : ckG R = 0
  · have h40 := (ckG_ok ok).1
    rw [ok] at HC
    have HDi := hideIt (distances_any R ok a cap w hg)
    have HBest : Hid (∀ c, BestC (gB R) R.length c → cyG R = 0 ∧ cyL R = c) := fun c h => cyG_best ok h
    have HNone : Hid ((∀ x, ¬ Way (gB R) R.length x x) → cyG R = 8 ∧ cyL R = []) := cyG_none ok
    have HTo : Hid (∀ W, Below w.heap.size w W → ∀ base B rb, NumM W base B R.length R.length rb (farG (gB R) R.length) → ∀ x f left, x < R.length → f < R.length → (∃ y, y < R.length ∧ gB R x y = true ∧ farG (gB R) R.length y f = left) → Calls Tryd.prog 83 #[.slice a R.length cap, .slice (some ⟨B, 0, none⟩) R.length R.length, .int .i64 (x : Nat), .int .i64 (f : Nat), .int .i64 (left : Nat)] W fun e w' => ∃ y : Nat, e = .returned (.int .i64 (y : Nat)) ∧ y < R.length ∧ gB R x y = true ∧ farG (gB R) R.length y f = left ∧ (∀ z, z < y → ¬ (gB R x z = true ∧ farG (gB R) R.length z f = left)) ∧ w' = W) := fun W hW base B rb hM x f left hx hf hex => toward_any R ok a cap W (hg.below hW) _ base B rb hM x f left hx hf hex
    unfold PyTold
    clear hg ok hrm hmax
    generalize gB R = g at *
    generalize cyG R = cg at *
    generalize cyL R = cl at *
    generalize R.length = n at *
    go_enter Tryd.func64, Tryd.ntmps64
    go_wp2_with fail
    refine HC.out.mono ?_
    clear HC
    rintro e w1 ⟨rfl, rfl⟩
    have ht0 : toldV 0 = .nilIface := rfl
    rw [ht0]
    go_wp2_with fail
    refine HDi.out.mono ?_
    clear HDi
    rintro e W1 ⟨B, rb, rfl, hN1, hb1⟩
    have HN1 := hideIt hN1
    have HB1 := hideIt hb1
    have HNe := hideIt (nearest_any n (by omega) _ _ _ _ W1 hN1)
    clear hN1 hb1
    go_wp2_with fail
    refine HNe.out.mono ?_
    clear HNe
    rintro e W2 ⟨x, rfl, hx, hb2⟩
    have HN2 := hideIt (HN1.out.below hb2)
    have HB2 := hideIt (belJ HB1.out hb2)
    clear hb2 HN1 HB1
    rcases hx with ⟨rfl, hno⟩ | ⟨f, rfl, hf, hf0, hfm, hfl⟩
    · obtain ⟨rfl, rfl⟩ := HNone.out (near_none hno)
      clear hno
      go_wp2
      go_ret2
      exact ⟨_, rfl, rowAt_nil _ _, HB2.out⟩
    · have HFew := hideIt (near_few hf hf0 hfm)
      have HM := hideIt (And.intro hfm hfl)
      have HP0 := hideIt (PartC.start hf hf0)
      have hf' : (f : Int) < n := by omega
      have hf2 : ((f : Int) == -1) = false := by simp
      have hfew := HFew.out
      obtain ⟨d, HD⟩ : ∃ d, Hid (farG g n f f = d + 1) := ⟨farG g n f f - 1, by show farG g n f f = farG g n f f - 1 + 1; omega⟩
      have c0 := (HN2.out.alloc (.cells #[.int .i64 (f : Nat)] 3)).head f hf
      have c1 := ((HN2.out.alloc (.cells #[.int .i64 (f : Nat)] 3)).row f hf).num f hf
      rw [HD.out] at c1 hfew
      rw [HD.out, Nat.add_sub_cancel] at HP0
      have HRow : Hid (RowAt (W2.alloc (.cells #[.int .i64 (f : Nat)] 3)) W2.heap.size (.slice (some ⟨W2.heap.size, 0, none⟩) 1 1) (natI [f])) := by
        have hnew := heap_alloc_new W2 (.cells #[.int .i64 (f : Nat)] 3)
        refine .inr ⟨W2.heap.size, 0, 1, _, rfl, Nat.le_refl _, hnew, Nat.le_refl _, by simp, by decide, fun j hj => ?_⟩
        obtain rfl : j = 0 := by simp [natI] at hj; exact hj
        rw [cell_of_row _ _ _ _ 3 _ hnew]; rfl
      have HBx : Hid (Below W2.heap.size W2 (W2.alloc (.cells #[.int .i64 (f : Nat)] 3))) := belA (Below.refl _ _) _
      clear hfm hfl hf0
      go_upto_region 9 with fail
      generalize W2.alloc _ = W3 at c0 c1 HRow HBx ⊢
      go_quiet (fail)
      go_wp2
      try rw [hf2]
      clear c0 c1 hf2
      go_loopw [7, 8, 9] (fun v x l wr => ∃ (c : List Nat) (left : Nat), PartC g n f c left ∧ l = .int .i64 (left : Nat) ∧ x = .int .i64 ((c.getLastD 0 : Nat) : Int) ∧ RowAt wr W2.heap.size v (natI c) ∧ Below W2.heap.size W2 wr) (fun _ _ l _ => (intOf l).toNat)
      case atStart => exact ⟨[f], d, HP0.out, by go_num, rfl, HRow.out.belowR (below_drewN (Below.refl _ _) _), below_drewN HBx.out _⟩
      case round =>
        clear HP0 HRow HBx
        obtain ⟨c, left, hP, rfl, rfl, hrow, hb⟩ := hrel
        have HP := hideIt hP
        have HRow := hideIt hrow
        have HB := hideIt hb
        have hlen : c.length + left ≤ n := by rw [hP.len]; exact HFew.out
        clear hP hrow hb
        obtain ⟨va, vc, rfl⟩ := HRow.out.slice
        cases left with
        | zero =>
          obtain ⟨rfl, rfl⟩ := HBest.out c (HP.out.best hf HM.out.1 HM.out.2)
          go_wp2
          go_ret2
          exact ⟨_, rfl, HRow.out.base HB2.out.size, belJ HB2.out HB.out⟩
        | succ left =>
          have hpos := HP.out.pos
          have hlast := getLastD_at hpos
          have hxl := HP.out.rd.1 _ (List.getElem_mem (show c.length - 1 < c.length by omega))
          have HCt := hideIt (HTo.out wr (belJ HB2.out HB.out) _ _ _ (HN2.out.below HB.out) _ f (left + 1) hxl hf (HP.out.some hf))
          have HNx : Hid (∀ y, y < n → g (c[c.length - 1]'(by omega)) y = true → farG g n y f = left + 1 → (∀ z, z < y → ¬ (g (c[c.length - 1]'(by omega)) z = true ∧ farG g n z f = left + 1)) → PartC g n f (c ++ [y]) left) := fun y h1 h2 h3 h4 => HP.out.next h1 h2 h3 h4
          rw [hlast]
          generalize c[c.length - 1]'(by omega) = x at HCt HNx ⊢
          have hl1 : (0 : Int) < ((left + 1 : Nat) : Int) := by omega
          clear hlast hxl
          go_wp2_with fail
          refine HCt.out.mono ?_
          clear HCt
          rintro e w5 ⟨y, rfl, hy, hgy, hdy, hly, rfl⟩
          have R1 := hideIt (HNx.out y hy hgy hdy hly)
          clear HNx hgy hdy hly
          have hll : (natI c).length ≤ 40 := by unfold natI; rw [List.length_map]; omega
          have HRow2 : Hid (RowAt (w5.alloc (.cells #[.int .i64 (y : Int)] 3)) W2.heap.size (.slice va (natI c).length vc) (natI c)) := HRow.out.belowR (belA (Below.refl _ _) _)
          have hsz := HB.out.size
          go_wp2_with (at_builtin; refine wpList_append_row rfl _ _ rfl W2.heap.size _ (natI c) rfl HRow2.out w5.heap.size 1 (y : Int) rfl ?c1 ?c2 ?c3 ?_)
          case c1 => simp
          case c2 => omega
          case c3 => simp; omega
          intro v' w6 ht
          have HG2 : Hid (RowAt w6 W2.heap.size v' (natI (c ++ [y]))) := by
            show RowAt w6 W2.heap.size v' (natI (c ++ [y]))
            rw [natI_app]; exact ht.row
          have HG3 : Hid (Below W2.heap.size W2 w6) := (belA HB.out _).grown ht.grown (by simp; omega) (fun j hj => (HRow.out.lt j hj).1)
          clear ht
          go_wp2
          go_roundw
          case rel => exact ⟨c ++ [y], left, R1.out, by go_num, by simp, HG2.out, HG3.out⟩
          case measure => simp [intOf]
  · have hn : toldV (ckG R) = .iface 29 (.int .i64 (ckG R)) := by unfold toldV; rw [if_neg ok]
    have HF : Hid (cyG R = ckG R ∧ cyL R = []) := by unfold cyG cyL; rw [if_neg ok, if_neg ok]; exact ⟨rfl, rfl⟩
    rw [hn] at HC
    unfold PyTold
    rw [HF.out.1, HF.out.2, hn]
    clear hg hrm hmax
    generalize ckG R = c at HC ⊢
    go_enter Tryd.func64, Tryd.ntmps64
    go_wp2_with fail
    refine HC.out.mono ?_
    rintro e w1 ⟨rfl, rfl⟩
    go_wp2
    go_ret2
    exact ⟨_, rfl, rowAt_nil _ _, Below.refl _ _⟩
end Go.Proofs.YtaopigjhdkdklaaDoor
