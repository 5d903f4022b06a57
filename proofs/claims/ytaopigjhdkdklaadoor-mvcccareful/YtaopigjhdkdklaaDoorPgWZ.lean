/-
  The program's Check and Order of a graph, walked.
  The program's Order of a graph, walked.
-/
import Derived.Test.YtaopigjhdkdklaaDoorGoWZ
import Derived.Test.YtaopigjhdkdklaaDoorWalkAZ
namespace Go.Proofs.YtaopigjhdkdklaaDoor
open Go.RowKit

set_option maxRecDepth 100000 in
set_option maxHeartbeats 1000000 in
theorem gCheck_any (R : List (List Bool)) (a : Option Addr) (cap : Nat) (w : World) (hmax : R.length ≤ maxLen) (hrm : ∀ r ∈ R, r.length ≤ maxLen) (hg : GrQ w a R) :
    Calls Tryd.prog 66 #[.slice a R.length cap] w fun e w' => e = .returned (toldV (ckG R)) ∧ w' = w := by
  have HR : Hid (ckG R = if 40 < R.length then 4 else if (R.all fun r => r.length == R.length) = true then 0 else 3) := rfl
  have HG := hideIt hg
  have HM := hideIt hrm
  clear hg hrm
  go_enter Tryd.func66, Tryd.ntmps66
  by_cases h40 : R.length ≤ 40
  · have h40' : ¬ 40 < R.length := by omega
    rw [if_neg h40'] at HR
    go_wp2
    go_loopw [11] (fun v wr => ∃ k : Nat, k ≤ R.length ∧ v = .int .i64 k ∧ (∀ i (h : i < R.length), i < k → R[i].length = R.length) ∧ wr = w) (fun v _ => R.length - (intOf v).toNat)
    case atStart => exact ⟨0, Nat.zero_le _, rfl, fun i h hi => absurd hi (by omega), rfl⟩
    case round =>
      obtain ⟨k, hk, rfl, ha, rfl⟩ := hrel
      have HA := hideIt ha
      clear ha
      by_cases hkl : k < R.length
      · obtain ⟨b, off, rfl, hb, hj⟩ : ∃ b off, a = some ⟨b, off, none⟩ ∧ b < wr.heap.size ∧ ∀ i (h : i < R.length), ∃ s, wr.cell? ⟨b, off + i, none⟩ = some s ∧ BitsIn wr s R[i] := by
          rcases HG.out with h | h
          · subst h; simp at hkl
          · exact h
        obtain ⟨s, hs, a2, c2, rfl, _, _⟩ := hj k hkl
        have hml := HM.out R[k] (List.getElem_mem hkl)
        have hkl' : (k : Int) < R.length := by omega
        clear hj HG HM
        by_cases he : R[k].length = R.length
        · have R1 : Hid (∀ i (h : i < R.length), i < k + 1 → R[i].length = R.length) := fun i h hi => by
            by_cases e : i = k
            · subst e; exact he
            · exact HA.out i h (by omega)
          rw [he] at hs
          clear he hml
          go_wp2
          go_roundw
          case rel => exact ⟨k + 1, by omega, by go_num, R1.out, by first | rfl | trivial⟩
          case measure => simp [intOf]; omega
        · have HF : Hid (ckG R = 3) := by
            show ckG R = 3
            rw [HR.out, if_neg]
            intro h
            exact he (by simpa using List.all_eq_true.1 h R[k] (List.getElem_mem hkl))
          generalize R[k].length = m at hs he hml
          have he' : ((m : Int) != (R.length : Int)) = true := by simp; omega
          clear he
          go_wp2
          go_ret
          exact ⟨by rw [HF.out]; rfl, rfl⟩
      · have HF : Hid (ckG R = 0) := by
          show ckG R = 0
          rw [HR.out, if_pos]
          refine List.all_eq_true.2 fun r hr => ?_
          obtain ⟨i, hi, e⟩ := List.getElem_of_mem hr
          rw [← e, HA.out i hi (by omega)]
          simp
        obtain rfl : k = R.length := by omega
        go_wp2
        go_ret
        exact ⟨by rw [HF.out]; rfl, rfl⟩
  · have h40' : 40 < R.length := by omega
    rw [if_pos h40'] at HR
    go_wp2
    go_ret
    exact ⟨by rw [HR.out]; rfl, rfl⟩

/-- The least one, or none (-1). -/
def NxT (f : Nat → Bool) (n : Nat) (x : Int) : Prop := (x = -1 ∧ firstN f n = none) ∨ ∃ i : Nat, x = (i : Int) ∧ i < n ∧ firstN f n = some i

set_option maxRecDepth 100000 in
set_option maxHeartbeats 4000000 in
theorem next_any (R : List (List Bool)) (ok : ckG R = 0) (a : Option Addr) (cap : Nat) (w : World) (hg : GrQ w a R) (pb : Nat) (P : Nat → Bool) (hP : BitsAt w pb R.length P) :
    Calls Tryd.prog 67 #[.slice a R.length cap, .slice (some ⟨pb, 0, none⟩) R.length R.length] w fun e w' => ∃ x, e = .returned (.int .i64 x) ∧ NxT (mayG (gB R) R.length P) R.length x ∧ w' = w := by
  have h40 := (ckG_ok ok).1
  have HAt : Hid (∀ i, i < R.length → ∃ b off, a = some ⟨b, off, none⟩ ∧ ∃ rb ro rc, w.cell? ⟨b, off + i, none⟩ = some (.slice (some ⟨rb, ro, none⟩) R.length rc) ∧ R.length ≤ rc ∧ ∀ k, k < R.length → w.cell? ⟨rb, ro + k, none⟩ = some (.bool (gB R i k))) := fun i hi => by
    obtain ⟨b, off, e, hb, rb, ro, rc, h1, h2, h3, h4⟩ := hg.at ok hi
    exact ⟨b, off, e, rb, ro, rc, h1, h2, h4⟩
  have HBi := hideIt hP
  clear hg ok hP
  generalize gB R = g at HAt ⊢
  go_enter Tryd.func67, Tryd.ntmps67
  go_wp2
  go_step3
  go_wp2
  go_step3
  go_wp2
  go_loopw [10] (fun v wr => ∃ k : Nat, k ≤ R.length ∧ v = .int .i64 k ∧ (∀ i, i < k → mayG g R.length P i = false) ∧ wr = w) (fun v _ => R.length - (intOf v).toNat)
  case atStart => exact ⟨0, Nat.zero_le _, rfl, fun i hi => absurd hi (by omega), rfl⟩
  case round =>
    obtain ⟨i, hi, rfl, ha, rfl⟩ := hrel
    have HA := hideIt ha
    clear ha
    by_cases hin : i < R.length
    · have hin' : (i : Int) < R.length := by omega
      have p0 := HBi.out.bit i hin
      obtain ⟨pi, HPi⟩ : ∃ pi, Hid (P i = pi) := ⟨_, hideIt rfl⟩
      rw [HPi.out] at p0
      have HNo : Hid (mayG g R.length P i = false → ∀ i', i' < i + 1 → mayG g R.length P i' = false) := fun h i' h' => by
        by_cases e : i' = i
        · subst e; exact h
        · exact HA.out i' (by omega)
      cases pi
      · go_wp2
        go_loopw [19] (fun v wz => ∃ k : Nat, k ≤ R.length ∧ v = .int .i64 k ∧ (∀ j, j < k → g j i = true → P j = true) ∧ wz = wr) (fun v _ => R.length - (intOf v).toNat)
        case atStart => exact ⟨0, Nat.zero_le _, rfl, fun j hj => absurd hj (by omega), rfl⟩
        case round =>
          clear p0
          obtain ⟨k, hk, rfl, hall, rfl⟩ := hrel
          have HAll := hideIt hall
          clear hall
          by_cases hkn : k < R.length
          · have hkn' : (k : Int) < R.length := by omega
            have q0 := HBi.out.bit k hkn
            obtain ⟨b, off, rfl, rb, ro, rc, r0, _, hr⟩ := HAt.out k hkn
            have r1 := hr i hin
            have HSt : Hid ((g k i = true → P k = true) → ∀ j, j < k + 1 → g j i = true → P j = true) := fun h j hj => by
              by_cases e : j = k
              · subst e; exact h
              · exact HAll.out j (by omega)
            have HBad : Hid (g k i = true → P k = false → mayG g R.length P i = false) := fun h1 h2 => by
              cases e : mayG g R.length P i
              · rfl
              · have := (mayG_iff.1 e).2 k hkn h1
                rw [this] at h2; cases h2
            generalize P k = pk at q0 HSt HBad
            generalize g k i = gk at r1 HSt HBad
            clear hr
            cases gk
            · go_wp2
              go_roundw
              case rel => exact ⟨k + 1, by omega, by go_num, HSt.out (fun h => by cases h), by first | rfl | trivial⟩
              case measure => simp [intOf]; omega
            · cases pk
              · have R1 := hideIt (HNo.out (HBad.out rfl rfl))
                go_wp2
                go_roundw
                case rel => exact ⟨i + 1, by omega, by go_num, R1.out, by first | rfl | trivial⟩
                case measure => simp [intOf]; omega
              · go_wp2
                go_roundw
                case rel => exact ⟨k + 1, by omega, by go_num, HSt.out (fun _ => rfl), by first | rfl | trivial⟩
                case measure => simp [intOf]; omega
          · have HF : Hid (mayG g R.length P i = true) := mayG_iff.2 ⟨HPi.out, fun j hj => HAll.out j (by omega)⟩
            obtain rfl : k = R.length := by omega
            go_wp2
            rw [Exit.noGoto_ret]
            go_ret
            exact ⟨_, rfl, .inr ⟨i, rfl, hin, firstN_at hin HA.out HF.out⟩, rfl⟩
      · have R1 := hideIt (HNo.out (by simp [mayG, HPi.out]))
        go_wp2
        go_roundw
        case rel => exact ⟨i + 1, by omega, by go_num, R1.out, by first | rfl | trivial⟩
        case measure => simp [intOf]; omega
    · obtain rfl : i = R.length := by omega
      go_wp2
      rw [Exit.noGoto_ret]
      go_ret
      exact ⟨_, rfl, .inl ⟨rfl, firstN_none HA.out⟩, rfl⟩
end Go.Proofs.YtaopigjhdkdklaaDoor

namespace Go.Proofs.YtaopigjhdkdklaaDoor
open Go.RowKit

theorem made_room (w : World) (n : Nat) (hn : n ≤ 60) : (Instr.makeSlice 52 (.int .i64 0) (.int .i64 (n : Int))).run Tryd.prog w = .ok (.slice (some ⟨w.heap.size, 0, none⟩) 0 n) (w.alloc (.cells (madeCells #[.int .i64 0] n) 3)) := by
  obtain ⟨i, hi, hz, hs, hb⟩ := info_parts' info3
  have := run_make (P := Tryd.prog) w 52 3 i (.int .i64 0) Tryd.underlying52 hi hz .i64 .i64 0 (n : Int) (by omega) (by omega) (by rw [hb]; omega) (by omega)
  have e : (Value.int .i64 0).cells = #[.int .i64 0] := rfl
  rw [e] at this
  simpa [hs] using this
theorem room_made (w : World) (n : Nat) (hn : n ≤ 60) : RowAt (w.alloc (.cells (madeCells #[.int .i64 0] n) 3)) w.heap.size (.slice (some ⟨w.heap.size, 0, none⟩) 0 n) [] :=
  .inr ⟨w.heap.size, 0, n, _, rfl, Nat.le_refl _, heap_alloc_new w _, Nat.zero_le _, by simp [madeCells], by unfold maxLen; omega, fun j hj => absurd hj (by simp)⟩
/-- What stands behind a step: a bit more is set, a number more is appended. -/
theorem step_put {w2 w3 : World} {Z Y n k : Nat} {S : Nat → Bool} {v v' : Value} {st st' : List Int} {w0 : World} (hbits : BitsAt w2 Y n S) (hk : k < n) (hY : Z ≤ Y) (hrow : RowAt w2 Z v st) (hne : v.ownBlock ≠ some Y) (hb : Below Z w0 w2)
    (ht : Turned ((w2.setCell ⟨Y, k, none⟩ (.bool true)).alloc (.cells #[.int .i64 (k : Nat)] 3)) Z v w3 v' st') :
    BitsAt w3 Y n (putB S k) ∧ RowAt w3 Z v' st' ∧ v'.ownBlock ≠ some Y ∧ Below Z w0 w3 := by
  have hZ := hbits.lt
  have h1 : BitsAt ((w2.setCell ⟨Y, k, none⟩ (.bool true)).alloc (.cells #[.int .i64 (k : Nat)] 3)) Y n (putB S k) := ((hbits.put hk true).block (w' := (w2.setCell ⟨Y, k, none⟩ (.bool true)).alloc (.cells #[.int .i64 (k : Nat)] 3)) (Below.heap_alloc _ _ Y (by simp; exact hZ))).same fun j _ => by unfold putB; rfl
  have hown : ∀ j, v.ownBlock = some j → Z ≤ j := fun j hj => (hrow.lt j hj).1
  refine ⟨h1.block (ht.grown.block Y (by simp; omega) (fun e => hne e.symm)), ht.row, fun e => ?_, ?_⟩
  · rcases ht.own Y e with h | h
    · exact hne h
    · simp at h; omega
  · have hb1 : Below Z w0 ((w2.setCell ⟨Y, k, none⟩ (.bool true)).alloc (.cells #[.int .i64 (k : Nat)] 3)) := (hb.setCell (p := ⟨Y, k, none⟩) hY _).alloc (by simp; omega) _
    exact hb1.grown ht.grown (by simp; omega) (fun j hj => hown j hj)

/-- What Order tells: an error, or the order. -/
def oG (R : List (List Bool)) : Int := if ckG R = 0 then (if (ordG (gB R) R.length R.length).isSome then 0 else 11) else ckG R
def oL (R : List (List Bool)) : List Nat := if ckG R = 0 then (ordG (gB R) R.length R.length).getD [] else []
def PoTold (R : List (List Bool)) (w : World) (e : Ending) (w' : World) : Prop :=
  ∃ v, e = .returned (.tuple #[v, toldV (oG R)]) ∧ RowAt w' w.heap.size v (natI (oL R)) ∧ Below w.heap.size w w'

set_option maxRecDepth 100000 in
set_option maxHeartbeats 4000000 in
theorem gOrder_any (R : List (List Bool)) (a : Option Addr) (cap : Nat) (w : World) (hmax : R.length ≤ maxLen) (hrm : ∀ r ∈ R, r.length ≤ maxLen) (hg : GrQ w a R) :
    Calls Tryd.prog 42 #[.slice a R.length cap] w fun e w' => PoTold R w e w' := by
  have HC := hideIt (gCheck_any R a cap w hmax hrm hg)
  by_cases ok : ckG R = 0
  · have h40 := (ckG_ok ok).1
    rw [ok] at HC
    have hmr := made_room w R.length (by omega)
    have hmk := made_bits (w.alloc (.cells (madeCells #[.int .i64 0] R.length) 3)) R.length (by omega)
    have HR0 : Hid (RowAt ((w.alloc (.cells (madeCells #[.int .i64 0] R.length) 3)).alloc (.cells (madeCells #[.bool false] R.length) 4)) w.heap.size (.slice (some ⟨w.heap.size, 0, none⟩) 0 R.length) []) := (room_made w R.length (by omega)).belowR (belA (Below.refl _ _) _)
    have HB0 : Hid (Below w.heap.size w ((w.alloc (.cells (madeCells #[.int .i64 0] R.length) 3)).alloc (.cells (madeCells #[.bool false] R.length) 4))) := belA (belA (Below.refl _ _) _) _
    have HP0 : Hid (BitsAt ((w.alloc (.cells (madeCells #[.int .i64 0] R.length) 3)).alloc (.cells (madeCells #[.bool false] R.length) 4)) (w.heap.size + 1) R.length (fun _ => false)) := by
      have := bits_made (w.alloc (.cells (madeCells #[.int .i64 0] R.length) 3)) R.length
      rw [show (w.alloc (.cells (madeCells #[.int .i64 0] R.length) 3)).heap.size = w.heap.size + 1 by simp] at this
      exact this
    have HNx : Hid (∀ W pb P, Below w.heap.size w W → BitsAt W pb R.length P → Calls Tryd.prog 67 #[.slice a R.length cap, .slice (some ⟨pb, 0, none⟩) R.length R.length] W fun e w' => ∃ x, e = .returned (.int .i64 x) ∧ NxT (mayG (gB R) R.length P) R.length x ∧ w' = W) := fun W pb P hW hP => next_any R ok a cap W (hg.below hW) pb P hP
    have HOrd : Hid (∀ m, m ≤ R.length → ordG (gB R) R.length m = none → ordG (gB R) R.length R.length = none) := fun m hm h => by
      have := ordG_up h (R.length - m)
      rwa [show m + (R.length - m) = R.length by omega] at this
    have HSn : Hid (∀ m L, ordG (gB R) R.length m = some L → firstN (mayG (gB R) R.length (memB L)) R.length = none → ordG (gB R) R.length (m + 1) = none) := fun m L h h2 => by
      show ordG (gB R) R.length (m + 1) = none
      rw [ordG, h]; dsimp only; rw [h2]
    have HSs : Hid (∀ m L i, ordG (gB R) R.length m = some L → firstN (mayG (gB R) R.length (memB L)) R.length = some i → ordG (gB R) R.length (m + 1) = some (L ++ [i])) := fun m L i h h2 => by
      show ordG (gB R) R.length (m + 1) = _
      rw [ordG, h]; dsimp only; rw [h2]
    have HLen : Hid (∀ m L, ordG (gB R) R.length m = some L → L.length = m) := fun m L h => (ordG_ok h).1
    have HYes : Hid (∀ L, ordG (gB R) R.length R.length = some L → oG R = 0 ∧ oL R = L) := fun L h => by
      unfold oG oL; rw [if_pos ok, if_pos ok, h]; exact ⟨rfl, rfl⟩
    have HNo : Hid (ordG (gB R) R.length R.length = none → oG R = 11 ∧ oL R = []) := fun h => by
      unfold oG oL; rw [if_pos ok, if_pos ok, h]; exact ⟨rfl, rfl⟩
    clear hg ok hrm hmax
    unfold PoTold
    generalize gB R = g at HNx HOrd HSn HSs HLen HYes HNo ⊢
    generalize oG R = og at HYes HNo ⊢
    generalize oL R = ol at HYes HNo ⊢
    go_enter Tryd.func42, Tryd.ntmps42
    go_wp2_with fail
    refine HC.out.mono ?_
    rintro e w1 ⟨rfl, rfl⟩
    have ht0 : toldV 0 = .nilIface := rfl
    rw [ht0]
    go_wp2
    clear hmr hmk HC
    generalize (w1.alloc _).alloc _ = W0 at HB0 HP0 HR0 ⊢
    go_loopw [5, 21] (fun v c wr => ∃ (m : Nat) (L : List Nat), m ≤ R.length ∧ c = .int .i64 m ∧ ordG g R.length m = some L ∧ RowAt wr w1.heap.size v (natI L) ∧ v.ownBlock ≠ some (w1.heap.size + 1) ∧ BitsAt wr (w1.heap.size + 1) R.length (memB L) ∧ Below w1.heap.size w1 wr) (fun _ c _ => R.length - (intOf c).toNat)
    case atStart => exact ⟨0, [], Nat.zero_le _, rfl, rfl, HR0.out, fun e => by simp [Value.ownBlock] at e, HP0.out, HB0.out⟩
    case round =>
      clear HB0 HP0 HR0
      obtain ⟨m, L, hm, rfl, hord, hrow, hne, hbits, hb⟩ := hrel
      have HO := hideIt hord
      have HRow := hideIt hrow
      have HBi := hideIt hbits
      have HB := hideIt hb
      have HNe := hideIt hne
      have hLl := HLen.out m L hord
      clear hord hrow hbits hb hne
      obtain ⟨va, vc, rfl⟩ := HRow.out.slice
      by_cases hmn : m < R.length
      · have HCn := hideIt (HNx.out wr _ _ HB.out HBi.out)
        go_wp2_with fail
        refine HCn.out.mono ?_
        clear HCn
        rintro e w2 ⟨x, rfl, hx, rfl⟩
        rcases hx with ⟨rfl, hf⟩ | ⟨i, rfl, hin, hf⟩
        · obtain ⟨rfl, rfl⟩ := HNo.out (HOrd.out (m + 1) hmn (HSn.out m L HO.out hf))
          clear hf
          go_wp2
          go_ret2
          exact ⟨_, rfl, rowAt_nil _ _, HB.out⟩
        · have HS := hideIt (HSs.out m L i HO.out hf)
          have hin' : (i : Int) < R.length := by omega
          have p0 := HBi.out.bit i hin
          have z0 := HBi.out.fz i
          have HRow2 : Hid (RowAt ((w2.setCell ⟨w1.heap.size + 1, i, none⟩ (.bool true)).alloc (.cells #[.int .i64 (i : Int)] 3)) w1.heap.size (.slice va (natI L).length vc) (natI L)) := (HRow.out.kept (grown_setCell w2 ⟨w1.heap.size + 1, i, none⟩ (.bool true)) (.inr HNe.out)).belowR (belA (Below.refl _ _) _)
          have hll : (natI L).length ≤ 40 := by unfold natI; rw [List.length_map, hLl]; omega
          have hPl := HBi.out.lt
          have hi1 : ¬ (i : Int) = -1 := by omega
          clear hf
          go_wp2_with (at_builtin; refine wpList_append_row rfl _ _ rfl w1.heap.size _ (natI L) rfl HRow2.out w2.heap.size 1 (i : Int) rfl ?c1 ?c2 ?c3 ?_)
          case c1 => exact cell_new_set w2 (w1.heap.size + 1) i
          case c2 => omega
          case c3 => simp; omega
          intro v' w3 ht
          obtain ⟨g1, g2, g3, g4⟩ := step_put HBi.out hin (Nat.le_succ _) HRow.out HNe.out HB.out ht
          have HG1 : Hid (BitsAt w3 (w1.heap.size + 1) R.length (memB (L ++ [i]))) := g1.same fun k _ => by rw [memB_app]; unfold putB; rfl
          have HG2 : Hid (RowAt w3 w1.heap.size v' (natI (L ++ [i]))) := by
            show RowAt w3 w1.heap.size v' (natI (L ++ [i]))
            rw [natI_app]; exact g2
          have HG3 := hideIt g3
          have HG4 := hideIt g4
          clear ht g1 g2 g3 g4
          go_wp2
          go_roundw
          case rel => exact ⟨m + 1, L ++ [i], by omega, by go_num, HS.out, HG2.out, HG3.out, HG1.out, HG4.out⟩
          case measure => simp [intOf]; omega
      · obtain rfl : m = R.length := by omega
        obtain ⟨rfl, rfl⟩ := HYes.out L HO.out
        go_wp2
        go_ret2
        exact ⟨_, rfl, HRow.out, HB.out⟩
  · have hn : toldV (ckG R) = .iface 29 (.int .i64 (ckG R)) := by unfold toldV; rw [if_neg ok]
    have HF : Hid (oG R = ckG R ∧ oL R = []) := by unfold oG oL; rw [if_neg ok, if_neg ok]; exact ⟨rfl, rfl⟩
    rw [hn] at HC
    unfold PoTold
    rw [HF.out.1, HF.out.2, hn]
    clear hg hrm hmax
    generalize ckG R = c at HC ⊢
    go_enter Tryd.func42, Tryd.ntmps42
    go_wp2_with fail
    refine HC.out.mono ?_
    rintro e w1 ⟨rfl, rfl⟩
    go_wp2
    go_ret2
    exact ⟨_, rfl, rowAt_nil _ _, Below.refl _ _⟩
end Go.Proofs.YtaopigjhdkdklaaDoor
