/-
  The program's Order of a graph, walked.
-/
import Derived.Test.YtibdchahallbjabDoorPgW
namespace Go.Proofs.YtibdchahallbjabDoor
open Go.RowKit

theorem made_room (w : World) (n : Nat) (hn : n ≤ 60) : (Instr.makeSlice 29 (.int .i64 0) (.int .i64 (n : Int))).run Tryd.prog w = .ok (.slice (some ⟨w.heap.size, 0, none⟩) 0 n) (w.alloc (.cells (madeCells #[.int .i64 0] n) 3)) := by
  obtain ⟨i, hi, hz, hs, hb⟩ := info_parts' info3
  have := run_make (P := Tryd.prog) w 29 3 i (.int .i64 0) Tryd.underlying29 hi hz .i64 .i64 0 (n : Int) (by omega) (by omega) (by rw [hb]; omega) (by omega)
  have e : (Value.int .i64 0).cells = #[.int .i64 0] := rfl
  rw [e] at this
  simpa [hs] using this
theorem room_made (w : World) (n : Nat) (hn : n ≤ 60) : RowAt (w.alloc (.cells (madeCells #[.int .i64 0] n) 3)) w.heap.size (.slice (some ⟨w.heap.size, 0, none⟩) 0 n) [] :=
  .inr ⟨w.heap.size, 0, n, _, rfl, Nat.le_refl _, heap_alloc_new w _, Nat.zero_le _, by simp [madeCells], by unfold maxLen; omega, fun j hj => absurd hj (by simp)⟩
/-- What stands behind a step: a bit more is set, a number more is appended. -/
theorem step_put {w2 w3 : World} {Z Y n k : Nat} {S : Nat → Bool} {v v' : Value} {st st' : List Int} {w0 : World} (hbits : BitsAt w2 Y n S) (hk : k < n) (hY : Z ≤ Y) (hrow : RowAt w2 Z v st) (hne : v.ownBlock ≠ some Y) (hb : Below Z w0 w2)
    (ht : Turned ((w2.setCell ⟨Y, k, none⟩ (.bool true)).alloc (.cells #[.int .i64 (k : Nat)] 3)) Z v w3 v' st') :
    BitsAt w3 Y n (putB S k) ∧ RowAt w3 Z v' st' ∧ v'.ownBlock ≠ some Y ∧ Below Z w0 w3 := by
  have hZ := hbits.lt
  have h1 : BitsAt ((w2.setCell ⟨Y, k, none⟩ (.bool true)).alloc (.cells #[.int .i64 (k : Nat)] 3)) Y n (putB S k) := ((hbits.put hk true).block (w' := (w2.setCell ⟨Y, k, none⟩ (.bool true)).alloc (.cells #[.int .i64 (k : Nat)] 3)) (Below.heap_alloc _ _ Y (by simp; exact hZ))).same fun j _ => by unfold putB; rfl
  have hown : ∀ j, v.ownBlock = some j → Z ≤ j := fun j hj => (hrow.lt j hj).1
  refine ⟨h1.block (ht.grown.block Y (by simp; omega) (fun e => hne e.symm)), ht.row, fun e => ?_, ?_⟩
  · rcases ht.own Y e with h | h
    · exact hne h
    · simp at h; omega
  · have hb1 : Below Z w0 ((w2.setCell ⟨Y, k, none⟩ (.bool true)).alloc (.cells #[.int .i64 (k : Nat)] 3)) := (hb.setCell (p := ⟨Y, k, none⟩) hY _).alloc (by simp; omega) _
    exact hb1.grown ht.grown (by simp; omega) (fun j hj => hown j hj)

/-- What Order tells: an error, or the order. -/
def oG (R : List (List Bool)) : Int := if ckG R = 0 then (if (ordG (gB R) R.length R.length).isSome then 0 else 11) else ckG R
def oL (R : List (List Bool)) : List Nat := if ckG R = 0 then (ordG (gB R) R.length R.length).getD [] else []
def PoTold (R : List (List Bool)) (w : World) (e : Ending) (w' : World) : Prop :=
  ∃ v, e = .returned (.tuple #[v, toldV (oG R)]) ∧ RowAt w' w.heap.size v (natI (oL R)) ∧ Below w.heap.size w w'

set_option maxRecDepth 100000 in
set_option maxHeartbeats 4000000 in
theorem gOrder_any (R : List (List Bool)) (a : Option Addr) (cap : Nat) (w : World) (hmax : R.length ≤ maxLen) (hrm : ∀ r ∈ R, r.length ≤ maxLen) (hg : GrQ w a R) :
    Calls Tryd.prog 28 #[.slice a R.length cap] w fun e w' => PoTold R w e w' := by
  have HC := hideIt (gCheck_any R a cap w hmax hrm hg)
  by_cases ok : ckG R = 0
  · have h40 := (ckG_ok ok).1
    rw [ok] at HC
    have hmr := made_room w R.length (by omega)
    have hmk := made_bits (w.alloc (.cells (madeCells #[.int .i64 0] R.length) 3)) R.length (by omega)
    have HR0 : Hid (RowAt ((w.alloc (.cells (madeCells #[.int .i64 0] R.length) 3)).alloc (.cells (madeCells #[.bool false] R.length) 4)) w.heap.size (.slice (some ⟨w.heap.size, 0, none⟩) 0 R.length) []) := (room_made w R.length (by omega)).belowR (belA (Below.refl _ _) _)
    have HB0 : Hid (Below w.heap.size w ((w.alloc (.cells (madeCells #[.int .i64 0] R.length) 3)).alloc (.cells (madeCells #[.bool false] R.length) 4))) := belA (belA (Below.refl _ _) _) _
    have HP0 : Hid (BitsAt ((w.alloc (.cells (madeCells #[.int .i64 0] R.length) 3)).alloc (.cells (madeCells #[.bool false] R.length) 4)) (w.heap.size + 1) R.length (fun _ => false)) := by
      have := bits_made (w.alloc (.cells (madeCells #[.int .i64 0] R.length) 3)) R.length
      rw [show (w.alloc (.cells (madeCells #[.int .i64 0] R.length) 3)).heap.size = w.heap.size + 1 by simp] at this
      exact this
    have HNx : Hid (∀ W pb P, Below w.heap.size w W → BitsAt W pb R.length P → Calls Tryd.prog 52 #[.slice a R.length cap, .slice (some ⟨pb, 0, none⟩) R.length R.length] W fun e w' => ∃ x, e = .returned (.int .i64 x) ∧ NxT (mayG (gB R) R.length P) R.length x ∧ w' = W) := fun W pb P hW hP => next_any R ok a cap W (hg.below hW) pb P hP
    have HOrd : Hid (∀ m, m ≤ R.length → ordG (gB R) R.length m = none → ordG (gB R) R.length R.length = none) := fun m hm h => by
      have := ordG_up h (R.length - m)
      rwa [show m + (R.length - m) = R.length by omega] at this
    have HSn : Hid (∀ m L, ordG (gB R) R.length m = some L → firstN (mayG (gB R) R.length (memB L)) R.length = none → ordG (gB R) R.length (m + 1) = none) := fun m L h h2 => by
      show ordG (gB R) R.length (m + 1) = none
      rw [ordG, h]; dsimp only; rw [h2]
    have HSs : Hid (∀ m L i, ordG (gB R) R.length m = some L → firstN (mayG (gB R) R.length (memB L)) R.length = some i → ordG (gB R) R.length (m + 1) = some (L ++ [i])) := fun m L i h h2 => by
      show ordG (gB R) R.length (m + 1) = _
      rw [ordG, h]; dsimp only; rw [h2]
    have HLen : Hid (∀ m L, ordG (gB R) R.length m = some L → L.length = m) := fun m L h => (ordG_ok h).1
    have HYes : Hid (∀ L, ordG (gB R) R.length R.length = some L → oG R = 0 ∧ oL R = L) := fun L h => by
      unfold oG oL; rw [if_pos ok, if_pos ok, h]; exact ⟨rfl, rfl⟩
    have HNo : Hid (ordG (gB R) R.length R.length = none → oG R = 11 ∧ oL R = []) := fun h => by
      unfold oG oL; rw [if_pos ok, if_pos ok, h]; exact ⟨rfl, rfl⟩
    clear hg ok hrm hmax
    unfold PoTold
    generalize gB R = g at HNx HOrd HSn HSs HLen HYes HNo ⊢
    generalize oG R = og at HYes HNo ⊢
    generalize oL R = ol at HYes HNo ⊢
    go_enter Tryd.func28, Tryd.ntmps28
    go_wp2_with fail
    refine HC.out.mono ?_
    rintro e w1 ⟨rfl, rfl⟩
    have ht0 : toldV 0 = .nilIface := rfl
    rw [ht0]
    go_wp2
    clear hmr hmk HC
    generalize (w1.alloc _).alloc _ = W0 at HB0 HP0 HR0 ⊢
    go_loopw [5, 21] (fun v c wr => ∃ (m : Nat) (L : List Nat), m ≤ R.length ∧ c = .int .i64 m ∧ ordG g R.length m = some L ∧ RowAt wr w1.heap.size v (natI L) ∧ v.ownBlock ≠ some (w1.heap.size + 1) ∧ BitsAt wr (w1.heap.size + 1) R.length (memB L) ∧ Below w1.heap.size w1 wr) (fun _ c _ => R.length - (intOf c).toNat)
    case atStart => exact ⟨0, [], Nat.zero_le _, rfl, rfl, HR0.out, fun e => by simp [Value.ownBlock] at e, HP0.out, HB0.out⟩
    case round =>
      clear HB0 HP0 HR0
      obtain ⟨m, L, hm, rfl, hord, hrow, hne, hbits, hb⟩ := hrel
      have HO := hideIt hord
      have HRow := hideIt hrow
      have HBi := hideIt hbits
      have HB := hideIt hb
      have HNe := hideIt hne
      have hLl := HLen.out m L hord
      clear hord hrow hbits hb hne
      obtain ⟨va, vc, rfl⟩ := HRow.out.slice
      by_cases hmn : m < R.length
      · have HCn := hideIt (HNx.out wr _ _ HB.out HBi.out)
        go_wp2_with fail
        refine HCn.out.mono ?_
        clear HCn
        rintro e w2 ⟨x, rfl, hx, rfl⟩
        rcases hx with ⟨rfl, hf⟩ | ⟨i, rfl, hin, hf⟩
        · obtain ⟨rfl, rfl⟩ := HNo.out (HOrd.out (m + 1) hmn (HSn.out m L HO.out hf))
          clear hf
          go_wp2
          go_ret2
          exact ⟨_, rfl, rowAt_nil _ _, HB.out⟩
        · have HS := hideIt (HSs.out m L i HO.out hf)
          have hin' : (i : Int) < R.length := by omega
          have p0 := HBi.out.bit i hin
          have z0 := HBi.out.fz i
          have HRow2 : Hid (RowAt ((w2.setCell ⟨w1.heap.size + 1, i, none⟩ (.bool true)).alloc (.cells #[.int .i64 (i : Int)] 3)) w1.heap.size (.slice va (natI L).length vc) (natI L)) := (HRow.out.kept (grown_setCell w2 ⟨w1.heap.size + 1, i, none⟩ (.bool true)) (.inr HNe.out)).belowR (belA (Below.refl _ _) _)
          have hll : (natI L).length ≤ 40 := by unfold natI; rw [List.length_map, hLl]; omega
          have hPl := HBi.out.lt
          have hi1 : ¬ (i : Int) = -1 := by omega
          clear hf
          go_wp2_with (at_builtin; refine wpList_append_row rfl _ _ rfl w1.heap.size _ (natI L) rfl HRow2.out w2.heap.size 1 (i : Int) rfl ?c1 ?c2 ?c3 ?_)
          case c1 => exact cell_new_set w2 (w1.heap.size + 1) i
          case c2 => omega
          case c3 => simp; omega
          intro v' w3 ht
          obtain ⟨g1, g2, g3, g4⟩ := step_put HBi.out hin (Nat.le_succ _) HRow.out HNe.out HB.out ht
          have HG1 : Hid (BitsAt w3 (w1.heap.size + 1) R.length (memB (L ++ [i]))) := g1.same fun k _ => by rw [memB_app]; unfold putB; rfl
          have HG2 : Hid (RowAt w3 w1.heap.size v' (natI (L ++ [i]))) := by
            show RowAt w3 w1.heap.size v' (natI (L ++ [i]))
            rw [natI_app]; exact g2
          have HG3 := hideIt g3
          have HG4 := hideIt g4
          clear ht g1 g2 g3 g4
          go_wp2
          go_roundw
          case rel => exact ⟨m + 1, L ++ [i], by omega, by go_num, HS.out, HG2.out, HG3.out, HG1.out, HG4.out⟩
          case measure => simp [intOf]; omega
      · obtain rfl : m = R.length := by omega
        obtain ⟨rfl, rfl⟩ := HYes.out L HO.out
        go_wp2
        go_ret2
        exact ⟨_, rfl, HRow.out, HB.out⟩
  · have hn : toldV (ckG R) = .iface 25 (.int .i64 (ckG R)) := by unfold toldV; rw [if_neg ok]
    have HF : Hid (oG R = ckG R ∧ oL R = []) := by unfold oG oL; rw [if_neg ok, if_neg ok]; exact ⟨rfl, rfl⟩
    rw [hn] at HC
    unfold PoTold
    rw [HF.out.1, HF.out.2, hn]
    clear hg hrm hmax
    generalize ckG R = c at HC ⊢
    go_enter Tryd.func28, Tryd.ntmps28
    go_wp2_with fail
    refine HC.out.mono ?_
    rintro e w1 ⟨rfl, rfl⟩
    go_wp2
    go_ret2
    exact ⟨_, rfl, rowAt_nil _ _, Below.refl _ _⟩
end Go.Proofs.YtibdchahallbjabDoor
