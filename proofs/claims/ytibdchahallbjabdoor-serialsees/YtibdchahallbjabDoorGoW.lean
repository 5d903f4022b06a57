/-
  The document's order of nodes, walked.
-/
import Derived.Test.YtibdchahallbjabDoorGrM
import Derived.Test.YtibdchahallbjabDoorMatPZ
namespace Go.Proofs.YtibdchahallbjabDoor
open Go.RowKit

/-- The least one from j on that may stand next, or none (-1). -/
def AtR (f : Nat → Bool) (n j : Nat) (x : Int) : Prop := (x = -1 ∧ ∀ i, j ≤ i → i < n → f i = false) ∨ ∃ i : Nat, x = (i : Int) ∧ j ≤ i ∧ i < n ∧ f i = true ∧ ∀ i', j ≤ i' → i' < i → f i' = false
theorem AtR.yes {f : Nat → Bool} {n j : Nat} (hj : j < n) (h : f j = true) : AtR f n j (j : Int) := .inr ⟨j, rfl, Nat.le_refl _, hj, h, fun i' h1 h2 => absurd h1 (by omega)⟩
theorem AtR.no {f : Nat → Bool} {n j : Nat} {x : Int} (h : f j = false) (ha : AtR f n (j + 1) x) : AtR f n j x := by
  rcases ha with ⟨rfl, ha⟩ | ⟨i, rfl, h1, h2, h3, h4⟩
  · refine .inl ⟨rfl, fun i h1 h2 => ?_⟩
    by_cases e : i = j
    · rw [e]; exact h
    · exact ha i (by omega) h2
  · refine .inr ⟨i, rfl, by omega, h2, h3, fun i' h5 h6 => ?_⟩
    by_cases e : i' = j
    · rw [e]; exact h
    · exact h4 i' (by omega) h6
theorem AtR.done {f : Nat → Bool} {n : Nat} {x : Int} (h : AtR f n 0 x) : (x = -1 ∧ firstN f n = none) ∨ ∃ i : Nat, x = (i : Int) ∧ i < n ∧ firstN f n = some i := by
  rcases h with ⟨rfl, ha⟩ | ⟨i, rfl, _, h2, h3, h4⟩
  · exact .inl ⟨rfl, firstN_none fun j hj => ha j (Nat.zero_le _) hj⟩
  · exact .inr ⟨i, rfl, h2, firstN_at h2 (fun j hj => h4 j (Nat.zero_le _) hj) h3⟩
def mayK (g : Nat → Nat → Bool) (P : Nat → Bool) (i k : Nat) : Bool := !P i && (List.range k).all fun j => P j || !g j i
theorem mayK_succ (g : Nat → Nat → Bool) (P : Nat → Bool) (i k : Nat) : mayK g P i (k + 1) = (mayK g P i k && (P k || !g k i)) := by simp [mayK, List.range_succ, List.all_append, Bool.and_assoc]
def natI (L : List Nat) : List Int := L.map fun q : Nat => (q : Int)
theorem natI_app (L : List Nat) (k : Nat) : natI (L ++ [k]) = natI L ++ [(k : Int)] := by simp [natI]
theorem memB_app (L : List Nat) (k : Nat) (i : Nat) : memB (L ++ [k]) i = if i = k then true else memB L i := by
  unfold memB
  rw [List.contains_eq_any_beq, List.contains_eq_any_beq, List.any_append]
  by_cases e : i = k
  · subst e; simp
  · simp [e]

/-- What the document's order tells. -/
def GoTold (R : List (List Bool)) (w : World) (e : Ending) (w' : World) : Prop :=
  ∃ v ok, e = .returned (.tuple #[v, .bool ok]) ∧ ((∃ L, ordG (gB R) R.length R.length = some L ∧ ok = true ∧ RowAt w' w.heap.size v (natI L)) ∨ (ordG (gB R) R.length R.length = none ∧ ok = false ∧ v = .slice none 0 0)) ∧ Below w.heap.size w w'

set_option maxRecDepth 100000 in
set_option maxHeartbeats 4000000 in
theorem rOrder_any (R : List (List Bool)) (ok : ckG R = 0) (a : Option Addr) (cap : Nat) (w : World) (hg : GrQ w a R) :
    Calls Tryd.prog 25 #[.slice a R.length cap] w fun e w' => GoTold R w e w' := by
  have h40 := (ckG_ok ok).1
  have hmk := made_bits w R.length (by omega)
  have HB0 : Hid (Below w.heap.size w (w.alloc (.cells (madeCells #[.bool false] R.length) 4))) := belA (Below.refl _ _) _
  have HP0 := hideIt (bits_made w R.length)
  have HAt : Hid (∀ W, Below w.heap.size w W → ∀ i, i < R.length → ∃ b off, a = some ⟨b, off, none⟩ ∧ ∃ rb ro rc, W.cell? ⟨b, off + i, none⟩ = some (.slice (some ⟨rb, ro, none⟩) R.length rc) ∧ R.length ≤ rc ∧ ∀ k, k < R.length → W.cell? ⟨rb, ro + k, none⟩ = some (.bool (gB R i k))) := fun W hW i hi => by
    obtain ⟨b, off, e, hb, rb, ro, rc, h1, h2, h3, h4⟩ := (hg.below hW).at ok hi
    exact ⟨b, off, e, rb, ro, rc, h1, h2, h4⟩
  have HOrd : Hid (∀ m, m ≤ R.length → ordG (gB R) R.length m = none → ordG (gB R) R.length R.length = none) := fun m hm h => by
    have := ordG_up h (R.length - m)
    rwa [show m + (R.length - m) = R.length by omega] at this
  have HSn : Hid (∀ m L, ordG (gB R) R.length m = some L → firstN (mayG (gB R) R.length (memB L)) R.length = none → ordG (gB R) R.length (m + 1) = none) := fun m L h h2 => by
    show ordG (gB R) R.length (m + 1) = none
    rw [ordG, h]; dsimp only; rw [h2]
  have HSs : Hid (∀ m L i, ordG (gB R) R.length m = some L → firstN (mayG (gB R) R.length (memB L)) R.length = some i → ordG (gB R) R.length (m + 1) = some (L ++ [i])) := fun m L i h h2 => by
    show ordG (gB R) R.length (m + 1) = _
    rw [ordG, h]; dsimp only; rw [h2]
  have HLen : Hid (∀ m L, ordG (gB R) R.length m = some L → L.length = m) := fun m L h => (ordG_ok h).1
  clear hg ok
  unfold GoTold
  generalize gB R = g at HAt HOrd HSn HSs HLen ⊢
  go_enter Tryd.func25, Tryd.ntmps25
  go_wp2
  generalize w.alloc _ = W0 at HB0 HP0 ⊢
  go_loopw [4, 15] (fun v c wr => ∃ (m : Nat) (L : List Nat), m ≤ R.length ∧ c = .int .i64 m ∧ ordG g R.length m = some L ∧ RowAt wr (w.heap.size + 1) v (natI L) ∧ BitsAt wr w.heap.size R.length (memB L) ∧ Below w.heap.size w wr) (fun _ c _ => R.length - (intOf c).toNat)
  case atStart => exact ⟨0, [], Nat.zero_le _, rfl, rfl, .inl ⟨rfl, rfl⟩, HP0.out, HB0.out⟩
  case round =>
    clear HB0 HP0 hmk
    obtain ⟨m, L, hm, rfl, hord, hrow, hbits, hb⟩ := hrel
    have HO := hideIt hord
    have HRow := hideIt hrow
    have HBi := hideIt hbits
    have HB := hideIt hb
    have hLl := HLen.out m L hord
    clear hord hrow hbits hb
    by_cases hmn : m < R.length
    · go_wp2
      go_loopw [6, 7] (fun x v wz => ∃ (j : Nat) (y : Int), j ≤ R.length ∧ x = .int .i64 y ∧ v = .int .i64 ((j : Int) - 1) ∧ AtR (mayG g R.length (memB L)) R.length j y ∧ wz = wr) (fun _ v _ => (intOf v + 1).toNat)
      case atStart => exact ⟨R.length, -1, Nat.le_refl _, rfl, by go_num, .inl ⟨rfl, fun i h1 h2 => absurd h1 (by omega)⟩, rfl⟩
      case round =>
        obtain ⟨j, y, hj, rfl, rfl, hat, rfl⟩ := hrel
        have HA := hideIt hat
        clear hat
        by_cases hj0 : 0 < j
        · obtain ⟨i, rfl⟩ : ∃ i, j = i + 1 := ⟨j - 1, by omega⟩
          rw [show (((i + 1 : Nat) : Int) - 1) = (i : Int) by omega]
          have hin : i < R.length := by omega
          have hin' : (i : Int) < R.length := by omega
          have p0 := HBi.out.bit i hin
          have HM0 : Hid (mayK g (memB L) i 0 = !memB L i) := by simp [Hid, mayK]
          have HMn : Hid (mayK g (memB L) i R.length = mayG g R.length (memB L) i) := rfl
          obtain ⟨pi, HPi⟩ : ∃ pi, Hid (memB L i = pi) := ⟨_, hideIt rfl⟩
          rw [HPi.out] at p0 HM0
          go_wp2
          go_loopw [8, 31] (fun x c wz => ∃ k : Nat, k ≤ R.length ∧ x = .bool (mayK g (memB L) i k) ∧ c = .int .i64 k ∧ wz = wr) (fun _ c _ => R.length - (intOf c).toNat)
          case atStart => exact ⟨0, Nat.zero_le _, by rw [HM0.out], rfl, rfl⟩
          case round =>
            clear p0 HM0
            obtain ⟨k, hk, rfl, rfl, rfl⟩ := hrel
            have HMs := hideIt (mayK_succ g (memB L) i k)
            by_cases hkn : k < R.length
            · have hkn' : (k : Int) < R.length := by omega
              have q0 := HBi.out.bit k hkn
              obtain ⟨b, off, rfl, rb, ro, rc, r0, _, hr⟩ := HAt.out wr HB.out k hkn
              have r1 := hr i hin
              generalize mayK g (memB L) i k = mb at HMs ⊢
              generalize memB L k = pb at q0 HMs
              generalize g k i = gb at r1 HMs
              clear hr
              have R1 : Hid (∀ x : Bool, x = (mb && (pb || !gb)) → ∃ k' : Nat, k' ≤ R.length ∧ Value.bool x = .bool (mayK g (memB L) i k') ∧ Value.int .i64 ((k : Int) + 1) = .int .i64 k' ∧ True) := fun x hx => ⟨k + 1, by omega, by rw [HMs.out, hx], by go_num, trivial⟩
              cases mb
              · go_wp2
                go_roundw
                case rel => exact R1.out false rfl
                case measure => simp [intOf]; omega
              · cases pb
                · cases gb
                  · go_wp2
                    go_roundw
                    case rel => exact R1.out true rfl
                    case measure => simp [intOf]; omega
                  · go_wp2
                    go_roundw
                    case rel => exact R1.out false rfl
                    case measure => simp [intOf]; omega
                · go_wp2
                  go_roundw
                  case rel => exact R1.out true rfl
                  case measure => simp [intOf]; omega
            · obtain rfl : k = R.length := by omega
              rw [HMn.out]
              obtain ⟨mb, hmb⟩ : ∃ mb, mayG g R.length (memB L) i = mb := ⟨_, rfl⟩
              rw [hmb]
              cases mb
              · have R1 := hideIt (HA.out.no hmb)
                clear hmb
                go_wp2
                go_roundw
                case rel => exact ⟨i, y, by omega, rfl, rfl, R1.out, trivial⟩
                case measure => simp [intOf]
              · have R1 := hideIt (AtR.yes hin hmb)
                clear hmb
                go_wp2
                go_roundw
                case rel => exact ⟨i, (i : Int), by omega, rfl, rfl, R1.out, trivial⟩
                case measure => simp [intOf]
        · obtain rfl : j = 0 := by omega
          rcases HA.out.done with ⟨rfl, hf⟩ | ⟨i, rfl, hin, hf⟩
          · have HN := hideIt (HOrd.out (m + 1) hmn (HSn.out m L HO.out hf))
            clear hf
            go_wp2
            go_ret2
            exact ⟨_, _, rfl, .inr ⟨HN.out, rfl, rfl⟩, HB.out⟩
          · have HS := hideIt (HSs.out m L i HO.out hf)
            have hin' : (i : Int) < R.length := by omega
            have p0 := HBi.out.bit i hin
            have z0 := HBi.out.fz i
            obtain ⟨va, vc, rfl⟩ := HRow.out.slice
            have HRow2 : Hid (RowAt ((wr.setCell ⟨w.heap.size, i, none⟩ (.bool true)).alloc (.cells #[.int .i64 (i : Int)] 3)) (w.heap.size + 1) (.slice va (natI L).length vc) (natI L)) := (HRow.out.setOther (p := ⟨w.heap.size, i, none⟩) (Nat.lt_succ_self _) (.bool true)).belowR (belA (Below.refl _ _) _)
            have hll : (natI L).length ≤ 40 := by unfold natI; rw [List.length_map, hLl]; omega
            have hPl := HBi.out.lt
            clear hf
            go_wp2_with (at_builtin; refine wpList_append_row rfl _ _ rfl (w.heap.size + 1) _ (natI L) rfl HRow2.out wr.heap.size 1 (i : Int) rfl ?c1 ?c2 ?c3 ?_)
            case c1 => exact cell_new_set wr w.heap.size i
            case c2 => omega
            case c3 => simp; omega
            intro v' w3 ht
            obtain ⟨g1, g2, g3, g4⟩ := step_seen HBi.out hin HRow.out HB.out ht
            have HG1 : Hid (BitsAt w3 w.heap.size R.length (memB (L ++ [i]))) := g1.same fun k _ => by rw [memB_app]; unfold putB; rfl
            have HG2 : Hid (RowAt w3 (w.heap.size + 1) v' (natI (L ++ [i]))) := by
              show RowAt w3 (w.heap.size + 1) v' (natI (L ++ [i]))
              rw [natI_app]; exact g2
            have HG3 := hideIt g3
            clear ht g1 g2 g3 g4
            go_wp2
            go_roundw
            case rel => exact ⟨m + 1, L ++ [i], by omega, by go_num, HS.out, HG2.out, HG1.out, HG3.out⟩
            case measure => simp [intOf]; omega
    · obtain rfl : m = R.length := by omega
      go_wp2
      go_ret2
      exact ⟨_, _, rfl, .inl ⟨L, HO.out, rfl, HRow.out.base (Nat.le_succ _)⟩, HB.out⟩
end Go.Proofs.YtibdchahallbjabDoor
