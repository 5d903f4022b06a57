/-
  The program's Check and Order of a graph, walked.
  The program's Order of a graph, walked.
  The document's Closed and Groups, walked.
  The program's Closed, leader and Groups, walked.
-/
import Derived.Test.YthmiocbihhbdpaaGrMZ
import Derived.Test.YthmiocbihhbdpaaWalkAZ
import Derived.Test.YthmiocbihhbdpaaMnPZ
namespace Go.Proofs.Ythmiocbihhbdpaa
open Go.RowKit

set_option maxRecDepth 100000 in
set_option maxHeartbeats 1000000 in
theorem gCheck_any (R : List (List Bool)) (a : Option Addr) (cap : Nat) (w : World) (hmax : R.length ≤ maxLen) (hrm : ∀ r ∈ R, r.length ≤ maxLen) (hg : GrQ w a R) :
    Calls Try.prog 29 #[.slice a R.length cap] w fun e w' => e = .returned (toldV (ckG R)) ∧ w' = w := by
  have HR : Hid (ckG R = if 40 < R.length then 4 else if (R.all fun r => r.length == R.length) = true then 0 else 3) := rfl
  have HG := hideIt hg
  have HM := hideIt hrm
  clear hg hrm
  go_enter Try.func29, Try.ntmps29
  by_cases h40 : R.length ≤ 40
  · have h40' : ¬ 40 < R.length := by omega
    rw [if_neg h40'] at HR
    go_wp2
    go_loopw [11] (fun v wr => ∃ k : Nat, k ≤ R.length ∧ v = .int .i64 k ∧ (∀ i (h : i < R.length), i < k → R[i].length = R.length) ∧ wr = w) (fun v _ => R.length - (intOf v).toNat)
    case atStart => exact ⟨0, Nat.zero_le _, rfl, fun i h hi => absurd hi (by omega), rfl⟩
    case round =>
      obtain ⟨k, hk, rfl, ha, rfl⟩ := hrel
      have HA := hideIt ha
      clear ha
      by_cases hkl : k < R.length
      · obtain ⟨b, off, rfl, hb, hj⟩ : ∃ b off, a = some ⟨b, off, none⟩ ∧ b < wr.heap.size ∧ ∀ i (h : i < R.length), ∃ s, wr.cell? ⟨b, off + i, none⟩ = some s ∧ BitsIn wr s R[i] := by
          rcases HG.out with h | h
          · subst h; simp at hkl
          · exact h
        obtain ⟨s, hs, a2, c2, rfl, _, _⟩ := hj k hkl
        have hml := HM.out R[k] (List.getElem_mem hkl)
        have hkl' : (k : Int) < R.length := by omega
        clear hj HG HM
        by_cases he : R[k].length = R.length
        · have R1 : Hid (∀ i (h : i < R.length), i < k + 1 → R[i].length = R.length) := fun i h hi => by
            by_cases e : i = k
            · subst e; exact he
            · exact HA.out i h (by omega)
          rw [he] at hs
          clear he hml
          go_wp2
          go_roundw
          case rel => exact ⟨k + 1, by omega, by go_num, R1.out, by first | rfl | trivial⟩
          case measure => simp [intOf]; omega
        · have HF : Hid (ckG R = 3) := by
            show ckG R = 3
            rw [HR.out, if_neg]
            intro h
            exact he (by simpa using List.all_eq_true.1 h R[k] (List.getElem_mem hkl))
          generalize R[k].length = m at hs he hml
          have he' : ((m : Int) != (R.length : Int)) = true := by simp; omega
          clear he
          go_wp2
          go_ret
          exact ⟨by rw [HF.out]; rfl, rfl⟩
      · have HF : Hid (ckG R = 0) := by
          show ckG R = 0
          rw [HR.out, if_pos]
          refine List.all_eq_true.2 fun r hr => ?_
          obtain ⟨i, hi, e⟩ := List.getElem_of_mem hr
          rw [← e, HA.out i hi (by omega)]
          simp
        obtain rfl : k = R.length := by omega
        go_wp2
        go_ret
        exact ⟨by rw [HF.out]; rfl, rfl⟩
  · have h40' : 40 < R.length := by omega
    rw [if_pos h40'] at HR
    go_wp2
    go_ret
    exact ⟨by rw [HR.out]; rfl, rfl⟩

/-- The least one, or none (-1). -/
def NxT (f : Nat → Bool) (n : Nat) (x : Int) : Prop := (x = -1 ∧ firstN f n = none) ∨ ∃ i : Nat, x = (i : Int) ∧ i < n ∧ firstN f n = some i

set_option maxRecDepth 100000 in
set_option maxHeartbeats 4000000 in
theorem next_any (R : List (List Bool)) (ok : ckG R = 0) (a : Option Addr) (cap : Nat) (w : World) (hg : GrQ w a R) (pb : Nat) (P : Nat → Bool) (hP : BitsAt w pb R.length P) :
    Calls Try.prog 30 #[.slice a R.length cap, .slice (some ⟨pb, 0, none⟩) R.length R.length] w fun e w' => ∃ x, e = .returned (.int .i64 x) ∧ NxT (mayG (gB R) R.length P) R.length x ∧ w' = w := by
  have h40 := (ckG_ok ok).1
  have HAt : Hid (∀ i, i < R.length → ∃ b off, a = some ⟨b, off, none⟩ ∧ ∃ rb ro rc, w.cell? ⟨b, off + i, none⟩ = some (.slice (some ⟨rb, ro, none⟩) R.length rc) ∧ R.length ≤ rc ∧ ∀ k, k < R.length → w.cell? ⟨rb, ro + k, none⟩ = some (.bool (gB R i k))) := fun i hi => by
    obtain ⟨b, off, e, hb, rb, ro, rc, h1, h2, h3, h4⟩ := hg.at ok hi
    exact ⟨b, off, e, rb, ro, rc, h1, h2, h4⟩
  have HBi := hideIt hP
  clear hg ok hP
  generalize gB R = g at HAt ⊢
  go_enter Try.func30, Try.ntmps30
  go_wp2
  go_step3
  go_wp2
  go_step3
  go_wp2
  go_loopw [10] (fun v wr => ∃ k : Nat, k ≤ R.length ∧ v = .int .i64 k ∧ (∀ i, i < k → mayG g R.length P i = false) ∧ wr = w) (fun v _ => R.length - (intOf v).toNat)
  case atStart => exact ⟨0, Nat.zero_le _, rfl, fun i hi => absurd hi (by omega), rfl⟩
  case round =>
    obtain ⟨i, hi, rfl, ha, rfl⟩ := hrel
    have HA := hideIt ha
    clear ha
    by_cases hin : i < R.length
    · have hin' : (i : Int) < R.length := by omega
      have p0 := HBi.out.bit i hin
      obtain ⟨pi, HPi⟩ : ∃ pi, Hid (P i = pi) := ⟨_, hideIt rfl⟩
      rw [HPi.out] at p0
      have HNo : Hid (mayG g R.length P i = false → ∀ i', i' < i + 1 → mayG g R.length P i' = false) := fun h i' h' => by
        by_cases e : i' = i
        · subst e; exact h
        · exact HA.out i' (by omega)
      cases pi
      · go_wp2
        go_loopw [19] (fun v wz => ∃ k : Nat, k ≤ R.length ∧ v = .int .i64 k ∧ (∀ j, j < k → g j i = true → P j = true) ∧ wz = wr) (fun v _ => R.length - (intOf v).toNat)
        case atStart => exact ⟨0, Nat.zero_le _, rfl, fun j hj => absurd hj (by omega), rfl⟩
        case round =>
          clear p0
          obtain ⟨k, hk, rfl, hall, rfl⟩ := hrel
          have HAll := hideIt hall
          clear hall
          by_cases hkn : k < R.length
          · have hkn' : (k : Int) < R.length := by omega
            have q0 := HBi.out.bit k hkn
            obtain ⟨b, off, rfl, rb, ro, rc, r0, _, hr⟩ := HAt.out k hkn
            have r1 := hr i hin
            have HSt : Hid ((g k i = true → P k = true) → ∀ j, j < k + 1 → g j i = true → P j = true) := fun h j hj => by
              by_cases e : j = k
              · subst e; exact h
              · exact HAll.out j (by omega)
            have HBad : Hid (g k i = true → P k = false → mayG g R.length P i = false) := fun h1 h2 => by
              cases e : mayG g R.length P i
              · rfl
              · have := (mayG_iff.1 e).2 k hkn h1
                rw [this] at h2; cases h2
            generalize P k = pk at q0 HSt HBad
            generalize g k i = gk at r1 HSt HBad
            clear hr
            cases gk
            · go_wp2
              go_roundw
              case rel => exact ⟨k + 1, by omega, by go_num, HSt.out (fun h => by cases h), by first | rfl | trivial⟩
              case measure => simp [intOf]; omega
            · cases pk
              · have R1 := hideIt (HNo.out (HBad.out rfl rfl))
                go_wp2
                go_roundw
                case rel => exact ⟨i + 1, by omega, by go_num, R1.out, by first | rfl | trivial⟩
                case measure => simp [intOf]; omega
              · go_wp2
                go_roundw
                case rel => exact ⟨k + 1, by omega, by go_num, HSt.out (fun _ => rfl), by first | rfl | trivial⟩
                case measure => simp [intOf]; omega
          · have HF : Hid (mayG g R.length P i = true) := mayG_iff.2 ⟨HPi.out, fun j hj => HAll.out j (by omega)⟩
            obtain rfl : k = R.length := by omega
            go_wp2
            rw [Exit.noGoto_ret]
            go_ret
            exact ⟨_, rfl, .inr ⟨i, rfl, hin, firstN_at hin HA.out HF.out⟩, rfl⟩
      · have R1 := hideIt (HNo.out (by simp [mayG, HPi.out]))
        go_wp2
        go_roundw
        case rel => exact ⟨i + 1, by omega, by go_num, R1.out, by first | rfl | trivial⟩
        case measure => simp [intOf]; omega
    · obtain rfl : i = R.length := by omega
      go_wp2
      rw [Exit.noGoto_ret]
      go_ret
      exact ⟨_, rfl, .inl ⟨rfl, firstN_none HA.out⟩, rfl⟩
end Go.Proofs.Ythmiocbihhbdpaa

namespace Go.Proofs.Ythmiocbihhbdpaa
open Go.RowKit

theorem made_room (w : World) (n : Nat) (hn : n ≤ 60) : (Instr.makeSlice 24 (.int .i64 0) (.int .i64 (n : Int))).run Try.prog w = .ok (.slice (some ⟨w.heap.size, 0, none⟩) 0 n) (w.alloc (.cells (madeCells #[.int .i64 0] n) 3)) := by
  obtain ⟨i, hi, hz, hs, hb⟩ := info_parts' info3
  have := run_make (P := Try.prog) w 24 3 i (.int .i64 0) Try.underlying24 hi hz .i64 .i64 0 (n : Int) (by omega) (by omega) (by rw [hb]; omega) (by omega)
  have e : (Value.int .i64 0).cells = #[.int .i64 0] := rfl
  rw [e] at this
  simpa [hs] using this
theorem room_made (w : World) (n : Nat) (hn : n ≤ 60) : RowAt (w.alloc (.cells (madeCells #[.int .i64 0] n) 3)) w.heap.size (.slice (some ⟨w.heap.size, 0, none⟩) 0 n) [] :=
  .inr ⟨w.heap.size, 0, n, _, rfl, Nat.le_refl _, heap_alloc_new w _, Nat.zero_le _, by simp [madeCells], by unfold maxLen; omega, fun j hj => absurd hj (by simp)⟩
/-- What stands behind a step: a bit more is set, a number more is appended. -/
theorem step_put {w2 w3 : World} {Z Y n k : Nat} {S : Nat → Bool} {v v' : Value} {st st' : List Int} {w0 : World} (hbits : BitsAt w2 Y n S) (hk : k < n) (hY : Z ≤ Y) (hrow : RowAt w2 Z v st) (hne : v.ownBlock ≠ some Y) (hb : Below Z w0 w2)
    (ht : Turned ((w2.setCell ⟨Y, k, none⟩ (.bool true)).alloc (.cells #[.int .i64 (k : Nat)] 3)) Z v w3 v' st') :
    BitsAt w3 Y n (putB S k) ∧ RowAt w3 Z v' st' ∧ v'.ownBlock ≠ some Y ∧ Below Z w0 w3 := by
  have hZ := hbits.lt
  have h1 : BitsAt ((w2.setCell ⟨Y, k, none⟩ (.bool true)).alloc (.cells #[.int .i64 (k : Nat)] 3)) Y n (putB S k) := ((hbits.put hk true).block (w' := (w2.setCell ⟨Y, k, none⟩ (.bool true)).alloc (.cells #[.int .i64 (k : Nat)] 3)) (Below.heap_alloc _ _ Y (by simp; exact hZ))).same fun j _ => by unfold putB; rfl
  have hown : ∀ j, v.ownBlock = some j → Z ≤ j := fun j hj => (hrow.lt j hj).1
  refine ⟨h1.block (ht.grown.block Y (by simp; omega) (fun e => hne e.symm)), ht.row, fun e => ?_, ?_⟩
  · rcases ht.own Y e with h | h
    · exact hne h
    · simp at h; omega
  · have hb1 : Below Z w0 ((w2.setCell ⟨Y, k, none⟩ (.bool true)).alloc (.cells #[.int .i64 (k : Nat)] 3)) := (hb.setCell (p := ⟨Y, k, none⟩) hY _).alloc (by simp; omega) _
    exact hb1.grown ht.grown (by simp; omega) (fun j hj => hown j hj)

/-- What Order tells: an error, or the order. -/
def oG (R : List (List Bool)) : Int := if ckG R = 0 then (if (ordG (gB R) R.length R.length).isSome then 0 else 11) else ckG R
def oL (R : List (List Bool)) : List Nat := if ckG R = 0 then (ordG (gB R) R.length R.length).getD [] else []
def PoTold (R : List (List Bool)) (w : World) (e : Ending) (w' : World) : Prop :=
  ∃ v, e = .returned (.tuple #[v, toldV (oG R)]) ∧ RowAt w' w.heap.size v (natI (oL R)) ∧ Below w.heap.size w w'

set_option maxRecDepth 100000 in
set_option maxHeartbeats 4000000 in
theorem gOrder_any (R : List (List Bool)) (a : Option Addr) (cap : Nat) (w : World) (hmax : R.length ≤ maxLen) (hrm : ∀ r ∈ R, r.length ≤ maxLen) (hg : GrQ w a R) :
    Calls Try.prog 15 #[.slice a R.length cap] w fun e w' => PoTold R w e w' := by
  have HC := hideIt (gCheck_any R a cap w hmax hrm hg)
  by_cases ok : ckG R = 0
  · have h40 := (ckG_ok ok).1
    rw [ok] at HC
    have hmr := made_room w R.length (by omega)
    have hmk := made_bits (w.alloc (.cells (madeCells #[.int .i64 0] R.length) 3)) R.length (by omega)
    have HR0 : Hid (RowAt ((w.alloc (.cells (madeCells #[.int .i64 0] R.length) 3)).alloc (.cells (madeCells #[.bool false] R.length) 4)) w.heap.size (.slice (some ⟨w.heap.size, 0, none⟩) 0 R.length) []) := (room_made w R.length (by omega)).belowR (belA (Below.refl _ _) _)
    have HB0 : Hid (Below w.heap.size w ((w.alloc (.cells (madeCells #[.int .i64 0] R.length) 3)).alloc (.cells (madeCells #[.bool false] R.length) 4))) := belA (belA (Below.refl _ _) _) _
    have HP0 : Hid (BitsAt ((w.alloc (.cells (madeCells #[.int .i64 0] R.length) 3)).alloc (.cells (madeCells #[.bool false] R.length) 4)) (w.heap.size + 1) R.length (fun _ => false)) := by
      have := bits_made (w.alloc (.cells (madeCells #[.int .i64 0] R.length) 3)) R.length
      rw [show (w.alloc (.cells (madeCells #[.int .i64 0] R.length) 3)).heap.size = w.heap.size + 1 by simp] at this
      exact this
    have HNx : Hid (∀ W pb P, Below w.heap.size w W → BitsAt W pb R.length P → Calls Try.prog 30 #[.slice a R.length cap, .slice (some ⟨pb, 0, none⟩) R.length R.length] W fun e w' => ∃ x, e = .returned (.int .i64 x) ∧ NxT (mayG (gB R) R.length P) R.length x ∧ w' = W) := fun W pb P hW hP => next_any R ok a cap W (hg.below hW) pb P hP
    have HOrd : Hid (∀ m, m ≤ R.length → ordG (gB R) R.length m = none → ordG (gB R) R.length R.length = none) := fun m hm h => by
      have := ordG_up h (R.length - m)
      rwa [show m + (R.length - m) = R.length by omega] at this
    have HSn : Hid (∀ m L, ordG (gB R) R.length m = some L → firstN (mayG (gB R) R.length (memB L)) R.length = none → ordG (gB R) R.length (m + 1) = none) := fun m L h h2 => by
      show ordG (gB R) R.length (m + 1) = none
      rw [ordG, h]; dsimp only; rw [h2]
    have HSs : Hid (∀ m L i, ordG (gB R) R.length m = some L → firstN (mayG (gB R) R.length (memB L)) R.length = some i → ordG (gB R) R.length (m + 1) = some (L ++ [i])) := fun m L i h h2 => by
      show ordG (gB R) R.length (m + 1) = _
      rw [ordG, h]; dsimp only; rw [h2]
    have HLen : Hid (∀ m L, ordG (gB R) R.length m = some L → L.length = m) := fun m L h => (ordG_ok h).1
    have HYes : Hid (∀ L, ordG (gB R) R.length R.length = some L → oG R = 0 ∧ oL R = L) := fun L h => by
      unfold oG oL; rw [if_pos ok, if_pos ok, h]; exact ⟨rfl, rfl⟩
    have HNo : Hid (ordG (gB R) R.length R.length = none → oG R = 11 ∧ oL R = []) := fun h => by
      unfold oG oL; rw [if_pos ok, if_pos ok, h]; exact ⟨rfl, rfl⟩
    clear hg ok hrm hmax
    unfold PoTold
    generalize gB R = g at HNx HOrd HSn HSs HLen HYes HNo ⊢
    generalize oG R = og at HYes HNo ⊢
    generalize oL R = ol at HYes HNo ⊢
    go_enter Try.func15, Try.ntmps15
    go_wp2_with fail
    refine HC.out.mono ?_
    rintro e w1 ⟨rfl, rfl⟩
    have ht0 : toldV 0 = .nilIface := rfl
    rw [ht0]
    go_wp2
    clear hmr hmk HC
    generalize (w1.alloc _).alloc _ = W0 at HB0 HP0 HR0 ⊢
    go_loopw [5, 21] (fun v c wr => ∃ (m : Nat) (L : List Nat), m ≤ R.length ∧ c = .int .i64 m ∧ ordG g R.length m = some L ∧ RowAt wr w1.heap.size v (natI L) ∧ v.ownBlock ≠ some (w1.heap.size + 1) ∧ BitsAt wr (w1.heap.size + 1) R.length (memB L) ∧ Below w1.heap.size w1 wr) (fun _ c _ => R.length - (intOf c).toNat)
    case atStart => exact ⟨0, [], Nat.zero_le _, rfl, rfl, HR0.out, fun e => by simp [Value.ownBlock] at e, HP0.out, HB0.out⟩
    case round =>
      clear HB0 HP0 HR0
      obtain ⟨m, L, hm, rfl, hord, hrow, hne, hbits, hb⟩ := hrel
      have HO := hideIt hord
      have HRow := hideIt hrow
      have HBi := hideIt hbits
      have HB := hideIt hb
      have HNe := hideIt hne
      have hLl := HLen.out m L hord
      clear hord hrow hbits hb hne
      obtain ⟨va, vc, rfl⟩ := HRow.out.slice
      by_cases hmn : m < R.length
      · have HCn := hideIt (HNx.out wr _ _ HB.out HBi.out)
        go_wp2_with fail
        refine HCn.out.mono ?_
        clear HCn
        rintro e w2 ⟨x, rfl, hx, rfl⟩
        rcases hx with ⟨rfl, hf⟩ | ⟨i, rfl, hin, hf⟩
        · obtain ⟨rfl, rfl⟩ := HNo.out (HOrd.out (m + 1) hmn (HSn.out m L HO.out hf))
          clear hf
          go_wp2
          go_ret2
          exact ⟨_, rfl, rowAt_nil _ _, HB.out⟩
        · have HS := hideIt (HSs.out m L i HO.out hf)
          have hin' : (i : Int) < R.length := by omega
          have p0 := HBi.out.bit i hin
          have z0 := HBi.out.fz i
          have HRow2 : Hid (RowAt ((w2.setCell ⟨w1.heap.size + 1, i, none⟩ (.bool true)).alloc (.cells #[.int .i64 (i : Int)] 3)) w1.heap.size (.slice va (natI L).length vc) (natI L)) := (HRow.out.kept (grown_setCell w2 ⟨w1.heap.size + 1, i, none⟩ (.bool true)) (.inr HNe.out)).belowR (belA (Below.refl _ _) _)
          have hll : (natI L).length ≤ 40 := by unfold natI; rw [List.length_map, hLl]; omega
          have hPl := HBi.out.lt
          have hi1 : ¬ (i : Int) = -1 := by omega
          clear hf
          go_wp2_with (at_builtin; refine wpList_append_row rfl _ _ rfl w1.heap.size _ (natI L) rfl HRow2.out w2.heap.size 1 (i : Int) rfl ?c1 ?c2 ?c3 ?_)
          case c1 => exact cell_new_set w2 (w1.heap.size + 1) i
          case c2 => omega
          case c3 => simp; omega
          intro v' w3 ht
          obtain ⟨g1, g2, g3, g4⟩ := step_put HBi.out hin (Nat.le_succ _) HRow.out HNe.out HB.out ht
          have HG1 : Hid (BitsAt w3 (w1.heap.size + 1) R.length (memB (L ++ [i]))) := g1.same fun k _ => by rw [memB_app]; unfold putB; rfl
          have HG2 : Hid (RowAt w3 w1.heap.size v' (natI (L ++ [i]))) := by
            show RowAt w3 w1.heap.size v' (natI (L ++ [i]))
            rw [natI_app]; exact g2
          have HG3 := hideIt g3
          have HG4 := hideIt g4
          clear ht g1 g2 g3 g4
          go_wp2
          go_roundw
          case rel => exact ⟨m + 1, L ++ [i], by omega, by go_num, HS.out, HG2.out, HG3.out, HG1.out, HG4.out⟩
          case measure => simp [intOf]; omega
      · obtain rfl : m = R.length := by omega
        obtain ⟨rfl, rfl⟩ := HYes.out L HO.out
        go_wp2
        go_ret2
        exact ⟨_, rfl, HRow.out, HB.out⟩
  · have hn : toldV (ckG R) = .iface 45 (.int .i64 (ckG R)) := by unfold toldV; rw [if_neg ok]
    have HF : Hid (oG R = ckG R ∧ oL R = []) := by unfold oG oL; rw [if_neg ok, if_neg ok]; exact ⟨rfl, rfl⟩
    rw [hn] at HC
    unfold PoTold
    rw [HF.out.1, HF.out.2, hn]
    clear hg hrm hmax
    generalize ckG R = c at HC ⊢
    go_enter Try.func15, Try.ntmps15
    go_wp2_with fail
    refine HC.out.mono ?_
    rintro e w1 ⟨rfl, rfl⟩
    go_wp2
    go_ret2
    exact ⟨_, rfl, rowAt_nil _ _, Below.refl _ _⟩
end Go.Proofs.Ythmiocbihhbdpaa

namespace Go.Proofs.Ythmiocbihhbdpaa
open Go.RowKit

/-- What the document's Closed tells. -/
def GlTold (R : List (List Bool)) (w : World) (e : Ending) (w' : World) : Prop :=
  ∃ v gs A, e = .returned v ∧ OutAt w' w.heap.size R.length v gs A ∧ gs.length = R.length ∧ (∀ i k, i < R.length → k < R.length → A i k = war (gB R) R.length i k) ∧ Below w.heap.size w w'

def grpF (A : Nat → Nat → Bool) (i k : Nat) : Bool := k == i || (A i k && A k i)
theorem grp_of {R : List (List Bool)} {A : Nat → Nat → Bool} {n i : Nat} (hA : ∀ i k, i < n → k < n → A i k = war (gB R) n i k) (hi : i < n) {x : Int} (h : AtR (grpF A i) (i + 1) 0 x) : x = (grpG (gB R) n i : Nat) := by
  rcases h with ⟨_, ha⟩ | ⟨k, rfl, _, hk, hf, hl⟩
  · have := ha i (Nat.zero_le _) (by omega)
    simp [grpF] at this
  · have e : firstN (fun k => k == i || (war (gB R) n i k && war (gB R) n k i)) n = some k := firstN_at (by omega) (fun j hj => by
      have := hl j (Nat.zero_le _) hj
      unfold grpF at this
      rwa [hA i j hi (by omega), hA j i (by omega) hi] at this) (by
      unfold grpF at hf
      rwa [hA i k hi (by omega), hA k i (by omega) hi] at hf)
    unfold grpG
    rw [e]
    rfl
def grpL (R : List (List Bool)) (m : Nat) : List Int := (List.range m).map fun i => ((grpG (gB R) R.length i : Nat) : Int)
theorem grpL_succ (R : List (List Bool)) (m : Nat) : grpL R (m + 1) = grpL R m ++ [((grpG (gB R) R.length m : Nat) : Int)] := by simp [grpL, List.range_succ]
theorem grpL_len (R : List (List Bool)) (m : Nat) : (grpL R m).length = m := by simp [grpL]

end Go.Proofs.Ythmiocbihhbdpaa

namespace Go.Proofs.Ythmiocbihhbdpaa
open Go.RowKit

/-- Blocks of a world from lo on are as they were. -/
structure Kp (W wr : World) (lo : Nat) : Prop where
  size : W.heap.size ≤ wr.heap.size
  blk : ∀ b, lo ≤ b → b < W.heap.size → wr.heap[b]? = W.heap[b]?
theorem Kp.refl (W : World) (lo : Nat) : Kp W W lo := ⟨Nat.le_refl _, fun _ _ _ => rfl⟩
theorem Kp.alloc {W wr : World} {lo : Nat} (h : Kp W wr lo) (o : Obj) : Kp W (wr.alloc o) lo := ⟨by have := h.size; simp; omega, fun b h1 h2 => (Below.heap_alloc _ _ b (Nat.lt_of_lt_of_le h2 h.size)).trans (h.blk b h1 h2)⟩
theorem Kp.set {W wr : World} {lo : Nat} (h : Kp W wr lo) {p : Addr} (hp : p.block < lo ∨ W.heap.size ≤ p.block) (u : Value) : Kp W (wr.setCell p u) lo := ⟨by have := h.size; simp; omega, fun b h1 h2 => (Below.heap_setCell wr p u b (by omega)).trans (h.blk b h1 h2)⟩
theorem Kp.nums {W wr : World} {lo g n : Nat} {f : Nat → Nat} (h : Kp W wr lo) (hn : NumsAt W g n f) (hg : lo ≤ g) : NumsAt wr g n f := hn.block (h.blk g hg hn.lt)
theorem Kp.cell {W wr : World} {lo : Nat} (h : Kp W wr lo) {g i : Nat} {x : Value} (hg : lo ≤ g) (hc : W.cell? ⟨g, i, none⟩ = some x) : wr.cell? ⟨g, i, none⟩ = some x :=
  (World.cell?_of_block (a := ⟨g, i, none⟩) (h.blk g hg (World.block_lt_of_cell? W _ hc))).trans hc

theorem made_graph (w : World) (n : Nat) (hn : n ≤ 60) : (Instr.makeSlice 57 (.int .i64 (n : Int)) (.int .i64 (n : Int))).run Try.prog w = .ok (.slice (some ⟨w.heap.size, 0, none⟩) n n) (w.alloc (.cells (madeCells #[.slice none 0 0] n) 50)) := by
  obtain ⟨i, hi, hz, hs, hb⟩ := info_parts' info46
  have := run_make (P := Try.prog) w 57 50 i (.slice none 0 0) Try.underlying57 hi hz .i64 .i64 (n : Int) (n : Int) (by omega) (Int.le_refl _) (by rw [hb]; omega) (by omega)
  have e : (Value.slice none 0 0).cells = #[.slice none 0 0] := rfl
  rw [e] at this
  simpa [hs] using this

def midB (A : Nat → Nat → Bool) (m k : Nat) : Nat → Nat → Bool := fun a b => if a = m ∧ k ≤ b then false else A a b
theorem midB_put (A : Nat → Nat → Bool) (m k : Nat) (x : Bool) (h : A m k = x) (a b : Nat) : (if a = m ∧ b = k then x else midB A m k a b) = midB A m (k + 1) a b := by
  unfold midB
  by_cases e : a = m ∧ b = k
  · obtain ⟨rfl, rfl⟩ := e
    rw [if_pos ⟨rfl, rfl⟩, if_neg (by omega), h]
  · rw [if_neg e]
    by_cases e' : a = m ∧ k + 1 ≤ b
    · rw [if_pos (by omega), if_pos e']
    · rw [if_neg (by omega), if_neg e']
theorem midB_end (A : Nat → Nat → Bool) (m n a b : Nat) (hb : b < n) : midB A m n a b = A a b := by
  unfold midB
  rw [if_neg (by omega)]

/-- What Closed tells. -/
def PcTold (R : List (List Bool)) (w : World) (e : Ending) (w' : World) : Prop :=
  ∃ v, e = .returned (.tuple #[v, toldV (ckG R)]) ∧ (ckG R = 0 → ∃ B rb, v = .slice (some ⟨B, 0, none⟩) R.length R.length ∧ MatAt w' w.heap.size B R.length R.length rb (war (gB R) R.length)) ∧ (ckG R ≠ 0 → v = .slice none 0 0) ∧ Below w.heap.size w w'

set_option maxRecDepth 100000 in
set_option maxHeartbeats 8000000 in
theorem gClosed_any (R : List (List Bool)) (a : Option Addr) (cap : Nat) (w : World) (hmax : R.length ≤ maxLen) (hrm : ∀ r ∈ R, r.length ≤ maxLen) (hg : GrQ w a R) :
    Calls Try.prog 42 #[.slice a R.length cap] w fun e w' => PcTold R w e w' := by
  have HC := hideIt (gCheck_any R a cap w hmax hrm hg)
  by_cases ok : ckG R = 0
  · have h40 := (ckG_ok ok).1
    rw [ok] at HC
    have hmk := made_graph w R.length (by omega)
    have HM0 := hideIt (mat_made w R.length)
    have HB0 : Hid (Below w.heap.size w (w.alloc (.cells (madeCells #[.slice none 0 0] R.length) 50))) := belA (Below.refl _ _) _
    have HDi := hideIt (distances_any R ok a cap (w.alloc (.cells (madeCells #[.slice none 0 0] R.length) 50)) (hg.below HB0.out))
    rw [show (w.alloc (.cells (madeCells #[.slice none 0 0] R.length) 50)).heap.size = w.heap.size + 1 by simp] at HDi
    have HWr : Hid (∀ i k, i < R.length → k < R.length → decide (0 < farG (gB R) R.length i k) = war (gB R) R.length i k) := fun i k hi hk => far_war hi hk
    unfold PcTold
    rw [ok]
    clear hg ok hrm hmax
    generalize farG (gB R) R.length = D at HDi HWr
    generalize war (gB R) R.length = A at HWr ⊢
    generalize R.length = n at *
    go_enter Try.func42, Try.ntmps42
    go_wp2_with fail
    refine HC.out.mono ?_
    clear HC
    rintro e w1 ⟨rfl, rfl⟩
    have ht0 : toldV 0 = .nilIface := rfl
    rw [ht0]
    go_wp2_with fail
    refine HDi.out.mono ?_
    clear HDi hmk
    rintro e W1 ⟨B, rb, rfl, hN, hb1⟩
    have HN := hideIt hN
    have hS : w1.heap.size + 1 ≤ W1.heap.size := by have := hb1.size; simpa using this
    have HM1 : Hid (MatAt W1 w1.heap.size w1.heap.size n 0 (fun _ => 0) A) := (HM0.out.below (by simpa using hb1)).same fun i k hi => absurd hi (by omega)
    have HB1 : Hid (Below w1.heap.size w1 W1) := HB0.out.trans (hb1.mono (by omega))
    clear hN hb1 HM0 HB0
    go_wp2
    go_loopw [21] (fun v wr => ∃ (m : Nat) (cb : Nat → Nat), m ≤ n ∧ v = .int .i64 m ∧ MatAt wr w1.heap.size w1.heap.size n m cb A ∧ (∀ i, i < m → W1.heap.size ≤ cb i) ∧ Kp W1 wr (w1.heap.size + 1) ∧ Below w1.heap.size w1 wr) (fun v _ => n - (intOf v).toNat)
    case atStart => exact ⟨0, _, Nat.zero_le _, rfl, HM1.out, fun i hi => absurd hi (by omega), Kp.refl _ _, HB1.out⟩
    case round =>
      clear HM1 HB1
      obtain ⟨m, cb, hm, rfl, hM, hcb, hkp, hb⟩ := hrel
      have HM := hideIt hM
      have HB := hideIt hb
      have HCb := hideIt hcb
      have HKp := hideIt hkp
      clear hM hb hcb hkp
      by_cases hmn : m < n
      · have hmn' : (m : Int) < n := by omega
        have r0 := HKp.out.cell HN.out.lo (HN.out.head m hmn)
        have hmk := made_bits wr n (by omega)
        have HMa := hideIt (HM.out.alloc (.cells (madeCells #[.bool false] n) 4))
        have HN1 := hideIt (bits_made wr n)
        have hBl := HM.out.lt
        have hBs := HB.out.size
        have hks := HKp.out.size
        obtain ⟨ov, hov⟩ := HMa.out.room m hmn
        have hfz := HMa.out.fz m
        have HB1 : Hid (Below w1.heap.size w1 ((wr.alloc (.cells (madeCells #[.bool false] n) 4)).setCell ⟨w1.heap.size, m, none⟩ (.slice (some ⟨wr.heap.size, 0, none⟩) n n))) := (belA HB.out _).setCell (p := ⟨w1.heap.size, m, none⟩) (Nat.le_refl _) _
        have HK1 : Hid (Kp W1 ((wr.alloc (.cells (madeCells #[.bool false] n) 4)).setCell ⟨w1.heap.size, m, none⟩ (.slice (some ⟨wr.heap.size, 0, none⟩) n n)) (w1.heap.size + 1)) := (HKp.out.alloc _).set (p := ⟨w1.heap.size, m, none⟩) (.inl (Nat.lt_succ_self _)) _
        have HM2 : Hid (MatAt ((wr.alloc (.cells (madeCells #[.bool false] n) 4)).setCell ⟨w1.heap.size, m, none⟩ (.slice (some ⟨wr.heap.size, 0, none⟩) n n)) w1.heap.size w1.heap.size n (m + 1) (fun i => if i = m then wr.heap.size else cb i) (midB A m 0)) :=
          (HMa.out.add hmn HN1.out hBs (by omega) (fun i hi => Nat.ne_of_lt (HM.out.row i hi).lt)).same fun i k _ _ => by
            unfold midB
            by_cases e : i = m
            · rw [if_pos e, if_pos ⟨e, Nat.zero_le _⟩]
            · rw [if_neg e, if_neg (fun h => e h.1)]
        have HC2 : Hid (∀ i, i < m + 1 → W1.heap.size ≤ (fun i => if i = m then wr.heap.size else cb i) i) := fun i hi => by
          by_cases e : i = m
          · show _ ≤ (if i = m then wr.heap.size else cb i)
            rw [if_pos e]; exact hks
          · show _ ≤ (if i = m then wr.heap.size else cb i)
            rw [if_neg e]; exact HCb.out i (by omega)
        rw [World.setCell_alloc_past _ _ _ _ hBl] at HM2 HB1 HK1
        clear HMa HN1 HM HCb
        go_wp2
        clear hmk hov hfz r0
        generalize (wr.setCell _ _).alloc _ = W2 at HB1 HM2 HK1 ⊢
        obtain ⟨cb1, HM2, HC2⟩ : ∃ cb1, Hid (MatAt W2 w1.heap.size w1.heap.size n (m + 1) cb1 (midB A m 0)) ∧ Hid (∀ i, i < m + 1 → W1.heap.size ≤ cb1 i) := ⟨_, HM2, HC2⟩
        clear HB hBl hBs hks HKp
        go_loopw [34] (fun v wz => ∃ k : Nat, k ≤ n ∧ v = .int .i64 k ∧ MatAt wz w1.heap.size w1.heap.size n (m + 1) cb1 (midB A m k) ∧ Kp W1 wz (w1.heap.size + 1) ∧ Below w1.heap.size w1 wz) (fun v _ => n - (intOf v).toNat)
        case atStart => exact ⟨0, Nat.zero_le _, rfl, HM2.out, HK1.out, HB1.out⟩
        case round =>
          clear HM2 HB1 HK1
          obtain ⟨k, hk, rfl, hM, hkp, hb⟩ := hrel
          have HM := hideIt hM
          have HB := hideIt hb
          have HKp := hideIt hkp
          clear hM hb hkp
          by_cases hkn : k < n
          · have hkn' : (k : Int) < n := by omega
            have r1 := (HKp.out.nums (HN.out.row m hmn) (HN.out.from_ m hmn).1).num k hkn
            have c0 := HM.out.head m (by omega)
            have c1 := (HM.out.row m (by omega)).bit k hkn
            have z1 := (HM.out.row m (by omega)).fz k
            have hge := (HM.out.from_ m (by omega)).1
            have hcm := HC2.out m (by omega)
            have hw := HWr.out m k hmn hkn
            have HPut : Hid (∀ x : Bool, A m k = x → MatAt (wr.setCell ⟨cb1 m, k, none⟩ (.bool x)) w1.heap.size w1.heap.size n (m + 1) cb1 (midB A m (k + 1)) ∧ Kp W1 (wr.setCell ⟨cb1 m, k, none⟩ (.bool x)) (w1.heap.size + 1) ∧ Below w1.heap.size w1 (wr.setCell ⟨cb1 m, k, none⟩ (.bool x))) := fun x h =>
              ⟨(HM.out.put (by omega) hkn x).same fun i b _ _ => midB_put A m k x h i b, HKp.out.set (p := ⟨cb1 m, k, none⟩) (.inr hcm) _, HB.out.setCell (p := ⟨cb1 m, k, none⟩) hge _⟩
            generalize midB A m k m k = old at c1
            generalize D m k = d at r1 hw
            have R1 := hideIt (HPut.out (decide (0 < d)) hw.symm)
            clear HPut hw
            go_wp2
            go_roundw
            case rel => exact ⟨k + 1, by omega, by go_num, R1.out⟩
            case measure => simp [intOf]; omega
          · obtain rfl : k = n := by omega
            have R1 : Hid (MatAt wr w1.heap.size w1.heap.size k (m + 1) cb1 A) := HM.out.same fun i b _ hb => midB_end _ _ _ _ _ hb
            go_wp2
            go_roundw
            case rel => exact ⟨m + 1, cb1, by omega, by go_num, R1.out, HC2.out, HKp.out, HB.out⟩
            case measure => simp [intOf]; omega
      · obtain rfl : m = n := by omega
        go_wp2
        go_ret2
        exact ⟨_, rfl, fun _ => ⟨_, cb, rfl, HM.out⟩, fun h => absurd rfl h, HB.out⟩
  · have hn : toldV (ckG R) = .iface 45 (.int .i64 (ckG R)) := by unfold toldV; rw [if_neg ok]
    rw [hn] at HC
    unfold PcTold
    rw [hn]
    clear hg hrm hmax hn
    generalize ckG R = c at HC ok ⊢
    go_enter Try.func42, Try.ntmps42
    go_wp2_with fail
    refine HC.out.mono ?_
    rintro e w1 ⟨rfl, rfl⟩
    go_wp2
    go_ret2
    exact ⟨_, rfl, fun h => absurd h ok, fun _ => rfl, Below.refl _ _⟩

theorem grpG_lead {g : Nat → Nat → Bool} {n i o : Nat} (hi : i < n) (ho : o < i) (h1 : war g n i o = true) (h2 : war g n o i = true) (hl : ∀ k, k < o → ¬ (war g n i k = true ∧ war g n k i = true)) : grpG g n i = o := by
  unfold grpG
  rw [firstN_at (k := o) (by omega) (fun j hj => ?_) (by simp [h1, h2])]
  · rfl
  · have := hl j hj
    simp at this ⊢
    exact ⟨by omega, this⟩
theorem grpG_self {g : Nat → Nat → Bool} {n i : Nat} (hi : i < n) (hl : ∀ k, k < i → ¬ (war g n i k = true ∧ war g n k i = true)) : grpG g n i = i := by
  unfold grpG
  rw [firstN_at (k := i) hi (fun j hj => ?_) (by simp)]
  · rfl
  · have := hl j hj
    simp at this ⊢
    exact ⟨by omega, this⟩

end Go.Proofs.Ythmiocbihhbdpaa
