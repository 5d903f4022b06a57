/-
  The document's order of nodes, walked.
  Two matrices held against each other.
  Two rows of numbers held against each other.
  Rows of one's own: small facts; an append in a drawn region by the run's equation.
  The document's Closed and Groups, walked.
-/
import Derived.Test.YtodanhjookgbeaaDoorGrM
import Derived.Test.YtodanhjookgbeaaDoorWkW
import Derived.Deep.RegionLaw
namespace Go.Proofs.YtodanhjookgbeaaDoor
open Go.RowKit

/-- The least one from j on that may stand next, or none (-1). -/
def AtR (f : Nat → Bool) (n j : Nat) (x : Int) : Prop := (x = -1 ∧ ∀ i, j ≤ i → i < n → f i = false) ∨ ∃ i : Nat, x = (i : Int) ∧ j ≤ i ∧ i < n ∧ f i = true ∧ ∀ i', j ≤ i' → i' < i → f i' = false
theorem AtR.yes {f : Nat → Bool} {n j : Nat} (hj : j < n) (h : f j = true) : AtR f n j (j : Int) := .inr ⟨j, rfl, Nat.le_refl _, hj, h, fun i' h1 h2 => absurd h1 (by omega)⟩
theorem AtR.no {f : Nat → Bool} {n j : Nat} {x : Int} (h : f j = false) (ha : AtR f n (j + 1) x) : AtR f n j x := by
  rcases ha with ⟨rfl, ha⟩ | ⟨i, rfl, h1, h2, h3, h4⟩
  · refine .inl ⟨rfl, fun i h1 h2 => ?_⟩
    by_cases e : i = j
    · rw [e]; exact h
    · exact ha i (by omega) h2
  · refine .inr ⟨i, rfl, by omega, h2, h3, fun i' h5 h6 => ?_⟩
    by_cases e : i' = j
    · rw [e]; exact h
    · exact h4 i' (by omega) h6
theorem AtR.done {f : Nat → Bool} {n : Nat} {x : Int} (h : AtR f n 0 x) : (x = -1 ∧ firstN f n = none) ∨ ∃ i : Nat, x = (i : Int) ∧ i < n ∧ firstN f n = some i := by
  rcases h with ⟨rfl, ha⟩ | ⟨i, rfl, _, h2, h3, h4⟩
  · exact .inl ⟨rfl, firstN_none fun j hj => ha j (Nat.zero_le _) hj⟩
  · exact .inr ⟨i, rfl, h2, firstN_at h2 (fun j hj => h4 j (Nat.zero_le _) hj) h3⟩
def mayK (g : Nat → Nat → Bool) (P : Nat → Bool) (i k : Nat) : Bool := !P i && (List.range k).all fun j => P j || !g j i
theorem mayK_succ (g : Nat → Nat → Bool) (P : Nat → Bool) (i k : Nat) : mayK g P i (k + 1) = (mayK g P i k && (P k || !g k i)) := by simp [mayK, List.range_succ, List.all_append, Bool.and_assoc]
def natI (L : List Nat) : List Int := L.map fun q : Nat => (q : Int)
theorem natI_app (L : List Nat) (k : Nat) : natI (L ++ [k]) = natI L ++ [(k : Int)] := by simp [natI]
theorem memB_app (L : List Nat) (k : Nat) (i : Nat) : memB (L ++ [k]) i = if i = k then true else memB L i := by
  unfold memB
  rw [List.contains_eq_any_beq, List.contains_eq_any_beq, List.any_append]
  by_cases e : i = k
  · subst e; simp
  · simp [e]

/-- What the document's order tells. -/
def GoTold (R : List (List Bool)) (w : World) (e : Ending) (w' : World) : Prop :=
  ∃ v ok, e = .returned (.tuple #[v, .bool ok]) ∧ ((∃ L, ordG (gB R) R.length R.length = some L ∧ ok = true ∧ RowAt w' w.heap.size v (natI L)) ∨ (ordG (gB R) R.length R.length = none ∧ ok = false ∧ v = .slice none 0 0)) ∧ Below w.heap.size w w'

set_option maxRecDepth 100000 in
set_option maxHeartbeats 4000000 in
theorem rOrder_any (R : List (List Bool)) (ok : ckG R = 0) (a : Option Addr) (cap : Nat) (w : World) (hg : GrQ w a R) :
    Calls Tryd.prog 41 #[.slice a R.length cap] w fun e w' => GoTold R w e w' := by
  have h40 := (ckG_ok ok).1
  have hmk := made_bits w R.length (by omega)
  have HB0 : Hid (Below w.heap.size w (w.alloc (.cells (madeCells #[.bool false] R.length) 4))) := belA (Below.refl _ _) _
  have HP0 := hideIt (bits_made w R.length)
  have HAt : Hid (∀ W, Below w.heap.size w W → ∀ i, i < R.length → ∃ b off, a = some ⟨b, off, none⟩ ∧ ∃ rb ro rc, W.cell? ⟨b, off + i, none⟩ = some (.slice (some ⟨rb, ro, none⟩) R.length rc) ∧ R.length ≤ rc ∧ ∀ k, k < R.length → W.cell? ⟨rb, ro + k, none⟩ = some (.bool (gB R i k))) := fun W hW i hi => by
    obtain ⟨b, off, e, hb, rb, ro, rc, h1, h2, h3, h4⟩ := (hg.below hW).at ok hi
    exact ⟨b, off, e, rb, ro, rc, h1, h2, h4⟩
  have HOrd : Hid (∀ m, m ≤ R.length → ordG (gB R) R.length m = none → ordG (gB R) R.length R.length = none) := fun m hm h => by
    have := ordG_up h (R.length - m)
    rwa [show m + (R.length - m) = R.length by omega] at this
  have HSn : Hid (∀ m L, ordG (gB R) R.length m = some L → firstN (mayG (gB R) R.length (memB L)) R.length = none → ordG (gB R) R.length (m + 1) = none) := fun m L h h2 => by
    show ordG (gB R) R.length (m + 1) = none
    rw [ordG, h]; dsimp only; rw [h2]
  have HSs : Hid (∀ m L i, ordG (gB R) R.length m = some L → firstN (mayG (gB R) R.length (memB L)) R.length = some i → ordG (gB R) R.length (m + 1) = some (L ++ [i])) := fun m L i h h2 => by
    show ordG (gB R) R.length (m + 1) = _
    rw [ordG, h]; dsimp only; rw [h2]
  have HLen : Hid (∀ m L, ordG (gB R) R.length m = some L → L.length = m) := fun m L h => (ordG_ok h).1
  clear hg ok
  unfold GoTold
  generalize gB R = g at HAt HOrd HSn HSs HLen ⊢
  go_enter Tryd.func41, Tryd.ntmps41
  go_wp2
  generalize w.alloc _ = W0 at HB0 HP0 ⊢
  go_loopw [4, 15] (fun v c wr => ∃ (m : Nat) (L : List Nat), m ≤ R.length ∧ c = .int .i64 m ∧ ordG g R.length m = some L ∧ RowAt wr (w.heap.size + 1) v (natI L) ∧ BitsAt wr w.heap.size R.length (memB L) ∧ Below w.heap.size w wr) (fun _ c _ => R.length - (intOf c).toNat)
  case atStart => exact ⟨0, [], Nat.zero_le _, rfl, rfl, .inl ⟨rfl, rfl⟩, HP0.out, HB0.out⟩
  case round =>
    clear HB0 HP0 hmk
    obtain ⟨m, L, hm, rfl, hord, hrow, hbits, hb⟩ := hrel
    have HO := hideIt hord
    have HRow := hideIt hrow
    have HBi := hideIt hbits
    have HB := hideIt hb
    have hLl := HLen.out m L hord
    clear hord hrow hbits hb
    by_cases hmn : m < R.length
    · go_wp2
      go_loopw [6, 7] (fun x v wz => ∃ (j : Nat) (y : Int), j ≤ R.length ∧ x = .int .i64 y ∧ v = .int .i64 ((j : Int) - 1) ∧ AtR (mayG g R.length (memB L)) R.length j y ∧ wz = wr) (fun _ v _ => (intOf v + 1).toNat)
      case atStart => exact ⟨R.length, -1, Nat.le_refl _, rfl, by go_num, .inl ⟨rfl, fun i h1 h2 => absurd h1 (by omega)⟩, rfl⟩
      case round =>
        obtain ⟨j, y, hj, rfl, rfl, hat, rfl⟩ := hrel
        have HA := hideIt hat
        clear hat
        by_cases hj0 : 0 < j
        · obtain ⟨i, rfl⟩ : ∃ i, j = i + 1 := ⟨j - 1, by omega⟩
          rw [show (((i + 1 : Nat) : Int) - 1) = (i : Int) by omega]
          have hin : i < R.length := by omega
          have hin' : (i : Int) < R.length := by omega
          have p0 := HBi.out.bit i hin
          have HM0 : Hid (mayK g (memB L) i 0 = !memB L i) := by simp [Hid, mayK]
          have HMn : Hid (mayK g (memB L) i R.length = mayG g R.length (memB L) i) := rfl
          obtain ⟨pi, HPi⟩ : ∃ pi, Hid (memB L i = pi) := ⟨_, hideIt rfl⟩
          rw [HPi.out] at p0 HM0
          go_wp2
          go_loopw [8, 31] (fun x c wz => ∃ k : Nat, k ≤ R.length ∧ x = .bool (mayK g (memB L) i k) ∧ c = .int .i64 k ∧ wz = wr) (fun _ c _ => R.length - (intOf c).toNat)
          case atStart => exact ⟨0, Nat.zero_le _, by rw [HM0.out], rfl, rfl⟩
          case round =>
            clear p0 HM0
            obtain ⟨k, hk, rfl, rfl, rfl⟩ := hrel
            have HMs := hideIt (mayK_succ g (memB L) i k)
            by_cases hkn : k < R.length
            · have hkn' : (k : Int) < R.length := by omega
              have q0 := HBi.out.bit k hkn
              obtain ⟨b, off, rfl, rb, ro, rc, r0, _, hr⟩ := HAt.out wr HB.out k hkn
              have r1 := hr i hin
              generalize mayK g (memB L) i k = mb at HMs ⊢
              generalize memB L k = pb at q0 HMs
              generalize g k i = gb at r1 HMs
              clear hr
              have R1 : Hid (∀ x : Bool, x = (mb && (pb || !gb)) → ∃ k' : Nat, k' ≤ R.length ∧ Value.bool x = .bool (mayK g (memB L) i k') ∧ Value.int .i64 ((k : Int) + 1) = .int .i64 k' ∧ True) := fun x hx => ⟨k + 1, by omega, by rw [HMs.out, hx], by go_num, trivial⟩
              cases mb
              · go_wp2
                go_roundw
                case rel => exact R1.out false rfl
                case measure => simp [intOf]; omega
              · cases pb
                · cases gb
                  · go_wp2
                    go_roundw
                    case rel => exact R1.out true rfl
                    case measure => simp [intOf]; omega
                  · go_wp2
                    go_roundw
                    case rel => exact R1.out false rfl
                    case measure => simp [intOf]; omega
                · go_wp2
                  go_roundw
                  case rel => exact R1.out true rfl
                  case measure => simp [intOf]; omega
            · obtain rfl : k = R.length := by omega
              rw [HMn.out]
              obtain ⟨mb, hmb⟩ : ∃ mb, mayG g R.length (memB L) i = mb := ⟨_, rfl⟩
              rw [hmb]
              cases mb
              · have R1 := hideIt (HA.out.no hmb)
                clear hmb
                go_wp2
                go_roundw
                case rel => exact ⟨i, y, by omega, rfl, rfl, R1.out, trivial⟩
                case measure => simp [intOf]
              · have R1 := hideIt (AtR.yes hin hmb)
                clear hmb
                go_wp2
                go_roundw
                case rel => exact ⟨i, (i : Int), by omega, rfl, rfl, R1.out, trivial⟩
                case measure => simp [intOf]
        · obtain rfl : j = 0 := by omega
          rcases HA.out.done with ⟨rfl, hf⟩ | ⟨i, rfl, hin, hf⟩
          · have HN := hideIt (HOrd.out (m + 1) hmn (HSn.out m L HO.out hf))
            clear hf
            go_wp2
            go_ret2
            exact ⟨_, _, rfl, .inr ⟨HN.out, rfl, rfl⟩, HB.out⟩
          · have HS := hideIt (HSs.out m L i HO.out hf)
            have hin' : (i : Int) < R.length := by omega
            have p0 := HBi.out.bit i hin
            have z0 := HBi.out.fz i
            obtain ⟨va, vc, rfl⟩ := HRow.out.slice
            have HRow2 : Hid (RowAt ((wr.setCell ⟨w.heap.size, i, none⟩ (.bool true)).alloc (.cells #[.int .i64 (i : Int)] 3)) (w.heap.size + 1) (.slice va (natI L).length vc) (natI L)) := (HRow.out.setOther (p := ⟨w.heap.size, i, none⟩) (Nat.lt_succ_self _) (.bool true)).belowR (belA (Below.refl _ _) _)
            have hll : (natI L).length ≤ 40 := by unfold natI; rw [List.length_map, hLl]; omega
            have hPl := HBi.out.lt
            clear hf
            go_wp2_with (at_builtin; refine wpList_append_row rfl _ _ rfl (w.heap.size + 1) _ (natI L) rfl HRow2.out wr.heap.size 1 (i : Int) rfl ?c1 ?c2 ?c3 ?_)
            case c1 => exact cell_new_set wr w.heap.size i
            case c2 => omega
            case c3 => simp; omega
            intro v' w3 ht
            obtain ⟨g1, g2, g3, g4⟩ := step_seen HBi.out hin HRow.out HB.out ht
            have HG1 : Hid (BitsAt w3 w.heap.size R.length (memB (L ++ [i]))) := g1.same fun k _ => by rw [memB_app]; unfold putB; rfl
            have HG2 : Hid (RowAt w3 (w.heap.size + 1) v' (natI (L ++ [i]))) := by
              show RowAt w3 (w.heap.size + 1) v' (natI (L ++ [i]))
              rw [natI_app]; exact g2
            have HG3 := hideIt g3
            clear ht g1 g2 g3 g4
            go_wp2
            go_roundw
            case rel => exact ⟨m + 1, L ++ [i], by omega, by go_num, HS.out, HG2.out, HG1.out, HG3.out⟩
            case measure => simp [intOf]; omega
    · obtain rfl : m = R.length := by omega
      go_wp2
      go_ret2
      exact ⟨_, _, rfl, .inl ⟨L, HO.out, rfl, HRow.out.base (Nat.le_succ _)⟩, HB.out⟩
end Go.Proofs.YtodanhjookgbeaaDoor

namespace Go.Proofs.YtodanhjookgbeaaDoor
open Go.RowKit

/-- A matrix, read. -/
def ReadM (w : World) (v : Value) (n : Nat) (A : Nat → Nat → Bool) : Prop :=
  ∃ a cap, v = .slice a n cap ∧ n ≤ cap ∧ ∀ i, i < n → ∃ g off r, a = some ⟨g, off, none⟩ ∧ w.cell? ⟨g, off + i, none⟩ = some (.slice (some ⟨r, 0, none⟩) n n) ∧ ∀ k, k < n → w.cell? ⟨r, k, none⟩ = some (.bool (A i k))
theorem readM_nil (w : World) (A : Nat → Nat → Bool) : ReadM w (.slice none 0 0) 0 A := ⟨none, 0, rfl, Nat.le_refl _, fun i hi => absurd hi (by omega)⟩
theorem MatAt.readM {w : World} {base B n : Nat} {rb : Nat → Nat} {M : Nat → Nat → Bool} (h : MatAt w base B n n rb M) : ReadM w (.slice (some ⟨B, 0, none⟩) n n) n M :=
  ⟨_, n, rfl, Nat.le_refl _, fun i hi => ⟨B, 0, rb i, rfl, by rw [Nat.zero_add]; exact h.head i hi, fun k hk => (h.row i hi).bit k hk⟩⟩
theorem OutAt.readM {w : World} {base n : Nat} {v : Value} {gs : List Nat} {A : Nat → Nat → Bool} (h : OutAt w base n v gs A) (hg : gs.length = n) : ReadM w v n A := by
  by_cases h0 : 0 < gs.length
  · obtain ⟨g, off, cap, e, hc, hr⟩ := h.read h0
    rw [hg] at e hc
    exact ⟨_, cap, e, hc, fun i hi => ⟨g, off, gs[i]'(by omega), rfl, (hr i (by omega)).1, (hr i (by omega)).2⟩⟩
  · obtain rfl : gs = [] := List.length_eq_zero_iff.1 (by omega)
    rcases h.row with ⟨rfl, _⟩ | ⟨g, off, cap, cur, rfl, _⟩
    · rw [← hg]; exact readM_nil w A
    · rw [← hg]; exact ⟨_, cap, rfl, Nat.zero_le _, fun i hi => absurd hi (by simp)⟩

set_option maxRecDepth 100000 in
set_option maxHeartbeats 1000000 in
theorem sameBools_any (n : Nat) (hn : n ≤ 60) (A : Nat → Nat → Bool) (v v' : Value) (w : World) (h : ReadM w v n A) (h' : ReadM w v' n A) :
    Calls Tryd.prog 11 #[v, v'] w fun e w' => e = .returned (.bool true) ∧ Below w.heap.size w w' := by
  obtain ⟨a, cap, rfl, hc, hr⟩ := h
  obtain ⟨a', cap', rfl, hc', hr'⟩ := h'
  have HR := hideIt hr
  have HR' := hideIt hr'
  have HD : Hid (∀ nq i, i < n → (∃ g off r, a = some ⟨g, off, none⟩ ∧ (w.drewN nq).cell? ⟨g, off + i, none⟩ = some (.slice (some ⟨r, 0, none⟩) n n) ∧ ∀ k, k < n → (w.drewN nq).cell? ⟨r, k, none⟩ = some (.bool (A i k))) ∧ ∃ g off r, a' = some ⟨g, off, none⟩ ∧ (w.drewN nq).cell? ⟨g, off + i, none⟩ = some (.slice (some ⟨r, 0, none⟩) n n) ∧ ∀ k, k < n → (w.drewN nq).cell? ⟨r, k, none⟩ = some (.bool (A i k))) := fun nq i hi => ⟨HR.out i hi, HR'.out i hi⟩
  clear hr hr' HR HR'
  go_enter Tryd.func11, Tryd.ntmps11
  go_wp2
  go_loopw [5] (fun i wr => ∃ (k nq : Nat), k ≤ n ∧ i = .int .i64 k ∧ wr = w.drewN nq) (fun i _ => n - (intOf i).toNat)
  case atStart => exact ⟨0, 0, Nat.zero_le _, rfl, rfl⟩
  case round =>
    obtain ⟨i, nq, hi, rfl, hwr⟩ := hrel
    by_cases hin : i < n
    · obtain ⟨⟨g, off, r, rfl, c1, c2⟩, ⟨g', off', r', rfl, d1, d2⟩⟩ := HD.out nq i hin
      have HCC : Hid (∀ m, (w.drewN m).cell? ⟨g, off + i, none⟩ = some (.slice (some ⟨r, 0, none⟩) n n) ∧ (w.drewN m).cell? ⟨g', off' + i, none⟩ = some (.slice (some ⟨r', 0, none⟩) n n) ∧ ∀ k, k < n → (w.drewN m).cell? ⟨r, k, none⟩ = some (.bool (A i k)) ∧ (w.drewN m).cell? ⟨r', k, none⟩ = some (.bool (A i k))) := fun m => ⟨c1, d1, fun k hk => ⟨c2 k hk, d2 k hk⟩⟩
      have HMore : Hid (∀ m, ∃ m', wr.drewN m = w.drewN m') := fun m => ⟨nq + m, by rw [hwr]; simp [World.drewN, Nat.add_assoc]⟩
      rw [← hwr] at c1 d1
      clear c2 d2 hwr
      go_wp2_with fail
      go_big_quiet (fail)
      go_wp2
      go_loopw [6] (fun q wz => ∃ (k m : Nat), k ≤ n ∧ q = .int .i64 k ∧ wz = w.drewN m) (fun q _ => n - (intOf q).toNat)
      case atStart =>
        obtain ⟨m', hm'⟩ := HMore.out _
        exact ⟨0, m', Nat.zero_le _, rfl, hm'⟩
      case round =>
        clear HMore c1 d1
        obtain ⟨k, m, hk, rfl, hwz⟩ := hrel
        have HMore : Hid (∀ m2, ∃ m', wr.drewN m2 = w.drewN m') := fun m2 => ⟨m + m2, by rw [hwz]; simp [World.drewN, Nat.add_assoc]⟩
        by_cases hkn : k < n
        · obtain ⟨c1, d1, hh⟩ := HCC.out m
          obtain ⟨c2, d2⟩ := hh k hkn
          rw [← hwz] at c1 d1 c2 d2
          clear hwz hh
          have hb : (A i k != A i k) = false := by simp
          go_wp2_with fail
          go_big_quiet (fail)
          go_wp2
          go_roundw
          case rel =>
            obtain ⟨m', hm'⟩ := HMore.out _
            exact ⟨k + 1, m', by omega, by go_num, hm'⟩
          case measure => simp [intOf]; omega
        · obtain ⟨c1, _, _⟩ := HCC.out m
          rw [← hwz] at c1
          have HWZ := hideIt hwz
          clear hwz
          go_wp2
          go_roundw
          case rel => exact ⟨i + 1, m, by omega, by go_num, HWZ.out⟩
          case measure => simp [intOf]; omega
    · have HB : Hid (Below w.heap.size w wr) := by rw [hwr]; exact below_drewN (Below.refl _ _) _
      clear hwr
      go_wp2
      go_ret
      exact ⟨rfl, HB.out⟩

end Go.Proofs.YtodanhjookgbeaaDoor

namespace Go.Proofs.YtodanhjookgbeaaDoor
open Go.RowKit

/-- A row of numbers, read. -/
def HasI (w : World) (v : Value) (xs : List Int) : Prop := ∃ a cap, v = .slice a xs.length cap ∧ xs.length ≤ cap ∧ ∀ i (h : i < xs.length), ∃ g off, a = some ⟨g, off, none⟩ ∧ w.cell? ⟨g, off + i, none⟩ = some (.int .i64 xs[i])
theorem hasI_nil (w : World) : HasI w (.slice none 0 0) [] := ⟨none, 0, rfl, Nat.le_refl _, fun i hi => absurd hi (by simp)⟩
theorem HasI.below {w w' : World} {v : Value} {xs : List Int} (h : HasI w v xs) (hb : Below w.heap.size w w') : HasI w' v xs := by
  obtain ⟨a, cap, rfl, hc, hr⟩ := h
  refine ⟨a, cap, rfl, hc, fun i hi => ?_⟩
  obtain ⟨g, off, ha, h1⟩ := hr i hi
  exact ⟨g, off, ha, (hb.cell (p := ⟨g, off + i, none⟩) (World.block_lt_of_cell? w _ h1)).trans h1⟩
theorem RowAt.hasI {w : World} {base : Nat} {v : Value} {st : List Int} (h : RowAt w base v st) : HasI w v st := by
  rcases h with ⟨rfl, rfl⟩ | ⟨g, off, cap, cur, rfl, _, _, h1, _, _, h5⟩
  · exact hasI_nil w
  · exact ⟨_, cap, rfl, h1, fun i hi => ⟨g, off, rfl, h5 i hi⟩⟩

set_option maxRecDepth 100000 in
set_option maxHeartbeats 1000000 in
theorem sameInts_any (xs : List Int) (hn : xs.length ≤ 60) (v v' : Value) (w : World) (h : HasI w v xs) (h' : HasI w v' xs) :
    Calls Tryd.prog 19 #[v, v'] w fun e w' => e = .returned (.bool true) ∧ Below w.heap.size w w' := by
  have HR := hideIt h
  have HR' := hideIt h'
  obtain ⟨a, cap, rfl, hc, _⟩ := h
  obtain ⟨a', cap', rfl, hc', _⟩ := h'
  go_enter Tryd.func19, Tryd.ntmps19
  go_wp2
  go_loopw [5] (fun i wr => ∃ (k : Nat), k ≤ xs.length ∧ i = .int .i64 k ∧ Below w.heap.size w wr) (fun i _ => xs.length - (intOf i).toNat)
  case atStart => exact ⟨0, Nat.zero_le _, rfl, Below.refl _ _⟩
  case round =>
    obtain ⟨i, hi, rfl, hb⟩ := hrel
    have HB := hideIt hb
    clear hb
    by_cases hin : i < xs.length
    · obtain ⟨b1, p1, e1, _, hr1⟩ := HR.out.below HB.out
      obtain ⟨b2, p2, e2, _, hr2⟩ := HR'.out.below HB.out
      simp at e1 e2
      obtain ⟨rfl, rfl⟩ := e1
      obtain ⟨rfl, rfl⟩ := e2
      obtain ⟨g, off, rfl, c1⟩ := hr1 i hin
      obtain ⟨g', off', rfl, c2⟩ := hr2 i hin
      clear hr1 hr2
      generalize xs[i] = x at c1 c2
      have hne : (x != x) = false := by simp
      go_wp2_with fail
      go_big_quiet (fail)
      go_wp2
      go_roundw
      case rel => exact ⟨i + 1, by omega, by go_num, below_drewN HB.out _⟩
      case measure => simp [intOf]; omega
    · go_wp2
      go_ret
      exact ⟨rfl, HB.out⟩
end Go.Proofs.YtodanhjookgbeaaDoor

namespace Go.Proofs.YtodanhjookgbeaaDoor
open Go.RowKit

theorem ownsRow_slice {w : World} {base : Nat} {e : TypeId} {size : Nat} {v : Value} {n : Nat} {xs : List Value} (h : w.ownsRow base e size v n xs) : ∃ a c, v = .slice a n c := by
  obtain ⟨_, ⟨rfl, rfl⟩ | ⟨g, cap, cur, rfl, _⟩⟩ := h
  · exact ⟨_, _, rfl⟩
  · exact ⟨_, _, rfl⟩
theorem ownsRow_same {w w' : World} {base : Nat} {e : TypeId} {size : Nat} {v : Value} {n : Nat} {xs : List Value} (h : w.ownsRow base e size v n xs) (hs : ∀ b, v.ownBlock = some b → w'.heap[b]? = w.heap[b]?) : w'.ownsRow base e size v n xs := by
  obtain ⟨hl, h | ⟨g, cap, cur, rfl, hb, hh, h1⟩⟩ := h
  · exact ⟨hl, .inl h⟩
  · exact ⟨hl, .inr ⟨g, cap, cur, rfl, hb, (hs g rfl).trans hh, h1⟩⟩
theorem ownsRow_block {w : World} {base : Nat} {e : TypeId} {size : Nat} {v : Value} {n : Nat} {xs : List Value} (h : w.ownsRow base e size v n xs) : ∀ b, v.ownBlock = some b → base ≤ b ∧ b < w.heap.size ∧ ∃ cur, w.heap[b]? = some (.cells cur e (0, 0)) := by
  intro b hb
  have hl := h.lt b hb
  obtain ⟨_, ⟨rfl, _⟩ | ⟨g, cap, cur, rfl, _, hh, _⟩⟩ := h
  · cases hb
  · obtain rfl : g = b := by simpa [Value.ownBlock] using hb
    exact ⟨hl.1, hl.2, cur, hh⟩
theorem wpList_append_run {P : Program} (w : World) {ops : Array Oper} {rest : List Oper} {o : Oper} {a : Act} {Q : Exit → Act → World → Prop} (hgd : o.guard = none) (s x : Operand) (t : TypeId)
    (ho : o.op = .call { callee := .builtin .append, args := #[s, x], argTypes := #[t, t] }) (v xv v' : Value) (w' : World) (hs : a.eval s = v) (hx : a.eval x = xv) (hr : (Builtin.append_ #[t, t] o.type #[v, xv]).run P w = .ok v' w')
    (hK : wpList P ops Q rest (a.put o.dst v') w') : wpList P ops Q (o :: rest) a w := by
  refine wpList_plain hgd fun K' hK' => ?_
  unfold Oper.wp execOp
  simp only [ho, resolve, invoke, builtin, Sem.run_bind, Sem.run_pure, Result.andThen_ok, List.map_toArray, List.map_cons, List.map_nil, hs, hx, hr]
  exact hK' _ _ hK
theorem step_append_run {P : Program} {ops : Array Oper} {o : Oper} {a : Act} {w : World} {K : Act → World → Prop} {Q : Exit → Act → World → Prop} {E : Prop} (hgd : o.guard = none) (s x : Operand) (t : TypeId)
    (ho : o.op = .call { callee := .builtin .append, args := #[s, x], argTypes := #[t, t] }) (v xv v' : Value) (w' : World) (hs : a.eval s = v) (hx : a.eval x = xv) (hr : (Builtin.append_ #[t, t] o.type #[v, xv]).run P w = .ok v' w')
    (hK : K (a.put o.dst v') w') : if Region.wanted o (yielded ops a.tmps) = true then Oper.wp P o a w K Q else E := by
  have hw : Region.wanted o (yielded ops a.tmps) = true := by simp [Region.wanted, hgd]
  rw [if_pos hw]
  unfold Oper.wp execOp
  simp only [ho, resolve, invoke, builtin, Sem.run_bind, Sem.run_pure, Result.andThen_ok, List.map_toArray, List.map_cons, List.map_nil, hs, hx, hr]
  exact hK
end Go.Proofs.YtodanhjookgbeaaDoor

namespace Go.Proofs.YtodanhjookgbeaaDoor
open Go.RowKit

set_option maxRecDepth 100000 in
set_option maxHeartbeats 1000000 in
theorem gAt_any (R : List (List Bool)) (ok : ckG R = 0) (a : Option Addr) (cap Bx : Nat) (w : World) (hg : GrQ w a R) (hB : w.cell? ⟨Bx, 0, none⟩ = some (.slice a R.length cap)) (i k : Nat) (hi : i < R.length) (hk : k < R.length) :
    Calls Tryd.prog 53 #[.int .i64 (i : Nat), .int .i64 (k : Nat), .pointer (some ⟨Bx, 0, none⟩)] w fun e w' => e = .returned (.bool (gB R i k)) ∧ Below w.heap.size w w' := by
  have h40 := (ckG_ok ok).1
  obtain ⟨b, off, rfl, hb, rb, ro, rc, r0, _, _, hr⟩ := hg.at ok hi
  have r1 := hr k hk
  have hi' : (i : Int) < R.length := by omega
  have hk' : (k : Int) < R.length := by omega
  clear hr hg ok
  generalize gB R i k = gb at r1
  go_enter Tryd.func53, Tryd.ntmps53
  go_wp2
  go_ret
  exact ⟨rfl, Below.refl _ _⟩

/-- What the document's Closed tells. -/
def GlTold (R : List (List Bool)) (w : World) (e : Ending) (w' : World) : Prop :=
  ∃ v gs A, e = .returned v ∧ OutAt w' w.heap.size R.length v gs A ∧ gs.length = R.length ∧ (∀ i k, i < R.length → k < R.length → A i k = war (gB R) R.length i k) ∧ Below w.heap.size w w'

set_option maxRecDepth 100000 in
set_option maxHeartbeats 1000000 in
theorem rClosed_any (R : List (List Bool)) (ok : ckG R = 0) (a : Option Addr) (cap : Nat) (w : World) (hg : GrQ w a R) :
    Calls Tryd.prog 37 #[.slice a R.length cap] w fun e w' => GlTold R w e w' := by
  have h40 := (ckG_ok ok).1
  have hb : Below w.heap.size w (w.alloc (.cells #[.slice a R.length cap] 33)) := belA (Below.refl _ _) _
  have HC := hideIt (walks_any R.length (gB R) w.heap.size (w.alloc (.cells #[.slice a R.length cap] 33)) (by omega) fun W i k hW hi hk =>
    gAt_any R ok a cap w.heap.size W (hg.below (belJ hb hW)) (by rw [hW.cell (p := ⟨w.heap.size, 0, none⟩) (by simp)]; simp) i k hi hk)
  clear hg ok
  go_enter Tryd.func37, Tryd.ntmps37
  go_wp2_with fail
  refine HC.out.mono ?_
  rintro e w2 ⟨v, gs, A, rfl, ho, hgl, hA, hb2⟩
  have HO : Hid (OutAt w2 w.heap.size R.length v gs A) := ⟨ho.row.base hb.size, fun j hj => ⟨(ho.bits j hj).1, Nat.le_trans hb.size (ho.bits j hj).2.1, (ho.bits j hj).2.2⟩⟩
  clear ho
  go_wp2
  go_ret
  exact ⟨_, gs, A, rfl, HO.out, hgl, fun i k hi hk => by rw [Bool.eq_iff_iff, hA i k hi hk, war_iff hi hk], belJ hb hb2⟩

def grpF (A : Nat → Nat → Bool) (i k : Nat) : Bool := k == i || (A i k && A k i)
theorem grp_of {R : List (List Bool)} {A : Nat → Nat → Bool} {n i : Nat} (hA : ∀ i k, i < n → k < n → A i k = war (gB R) n i k) (hi : i < n) {x : Int} (h : AtR (grpF A i) (i + 1) 0 x) : x = (grpG (gB R) n i : Nat) := by
  rcases h with ⟨_, ha⟩ | ⟨k, rfl, _, hk, hf, hl⟩
  · have := ha i (Nat.zero_le _) (by omega)
    simp [grpF] at this
  · have e : firstN (fun k => k == i || (war (gB R) n i k && war (gB R) n k i)) n = some k := firstN_at (by omega) (fun j hj => by
      have := hl j (Nat.zero_le _) hj
      unfold grpF at this
      rwa [hA i j hi (by omega), hA j i (by omega) hi] at this) (by
      unfold grpF at hf
      rwa [hA i k hi (by omega), hA k i (by omega) hi] at hf)
    unfold grpG
    rw [e]
    rfl
def grpL (R : List (List Bool)) (m : Nat) : List Int := (List.range m).map fun i => ((grpG (gB R) R.length i : Nat) : Int)
theorem grpL_succ (R : List (List Bool)) (m : Nat) : grpL R (m + 1) = grpL R m ++ [((grpG (gB R) R.length m : Nat) : Int)] := by simp [grpL, List.range_succ]
theorem grpL_len (R : List (List Bool)) (m : Nat) : (grpL R m).length = m := by simp [grpL]

end Go.Proofs.YtodanhjookgbeaaDoor
