/-
  The document's own walks over roads, walked; Ahead7.
-/
import Derived.Test.YtodanhjookgbeaaDoorMatPZ
import Derived.Deep.RegionHeld3
namespace Go.Proofs.YtodanhjookgbeaaDoor
open Go.RowKit

theorem map_cons_nat {i : Nat} {r : List Nat} : (i :: r).map (fun n : Nat => (n : Int)) = (i : Int) :: r.map (fun n : Nat => (n : Int)) := rfl

theorem RowAt.belowR {w w' : World} {base : Nat} {v : Value} {st : List Int} (h : RowAt w base v st) (hb : Below w.heap.size w w') : RowAt w' base v st := by
  rcases h with h | ⟨g, off, cap, cur, rfl, h0, hh, h1, h2, h4, h5⟩
  · exact .inl h
  · have e := hb.block g (lt_of_heap hh)
    exact .inr ⟨g, off, cap, cur, rfl, h0, e.trans hh, h1, h2, h4, fun j hj => (World.cell?_of_block (a := ⟨g, off + j, none⟩) e).trans (h5 j hj)⟩
theorem RowAt.setOther {w : World} {base : Nat} {v : Value} {st : List Int} (h : RowAt w base v st) {p : Addr} (hp : p.block < base) (u : Value) : RowAt (w.setCell p u) base v st :=
  h.kept (grown_setCell w p u) (.inr fun e => by have := (h.lt p.block e).1; omega)
theorem RowAt.slice {w : World} {base : Nat} {v : Value} {st : List Int} (h : RowAt w base v st) : ∃ a cap, v = .slice a st.length cap := by
  rcases h with ⟨rfl, rfl⟩ | ⟨g, off, cap, cur, rfl, _⟩
  · exact ⟨none, 0, rfl⟩
  · exact ⟨_, _, rfl⟩
theorem cell_new_set (w2 : World) (Z k : Nat) : ((w2.setCell ⟨Z, k, none⟩ (.bool true)).alloc (.cells #[.int .i64 (k : Nat)] 3)).cell? ⟨w2.heap.size, 0, none⟩ = some (.int .i64 (k : Nat)) := by
  have e := heap_alloc_new (w2.setCell ⟨Z, k, none⟩ (.bool true)) (.cells #[.int .i64 (k : Nat)] 3)
  have es : (w2.setCell ⟨Z, k, none⟩ (.bool true)).heap.size = w2.heap.size := by simp
  rw [es] at e
  rw [cell_of_row _ _ 0 _ 3 _ e]; rfl
/-- What the state of a walk is behind a step. -/
theorem step_seen {w2 w3 : World} {Z n k : Nat} {S : Nat → Bool} {v v' : Value} {st st' : List Int} {w0 : World} (hbits : BitsAt w2 Z n S) (hk : k < n) (hrow : RowAt w2 (Z + 1) v st) (hb : Below Z w0 w2)
    (ht : Turned ((w2.setCell ⟨Z, k, none⟩ (.bool true)).alloc (.cells #[.int .i64 (k : Nat)] 3)) (Z + 1) v w3 v' st') :
    BitsAt w3 Z n (putB S k) ∧ RowAt w3 (Z + 1) v' st' ∧ Below Z w0 w3 ∧ w2.heap.size ≤ w3.heap.size := by
  have hZ := hbits.lt
  have h1 : BitsAt ((w2.setCell ⟨Z, k, none⟩ (.bool true)).alloc (.cells #[.int .i64 (k : Nat)] 3)) Z n (putB S k) := ((hbits.put hk true).block (w' := (w2.setCell ⟨Z, k, none⟩ (.bool true)).alloc (.cells #[.int .i64 (k : Nat)] 3)) (Below.heap_alloc _ _ Z (by simp; exact hZ))).same fun j _ => by unfold putB; rfl
  have hown : ∀ j, v.ownBlock = some j → Z + 1 ≤ j := fun j hj => (hrow.lt j hj).1
  have hne : some Z ≠ v.ownBlock := fun e => by have := hown Z e.symm; omega
  refine ⟨h1.block (ht.grown.block Z (by simp; omega) hne), ht.row, ?_, ?_⟩
  · have hb1 : Below Z w0 ((w2.setCell ⟨Z, k, none⟩ (.bool true)).alloc (.cells #[.int .i64 (k : Nat)] 3)) := (hb.setCell (p := ⟨Z, k, none⟩) (Nat.le_refl _) _).alloc (by simp; omega) _
    exact hb1.grown ht.grown (by simp; omega) (fun j hj => by have := hown j hj; omega)
  · have := ht.grown.size
    simp at this; omega

set_option maxRecDepth 100000 in
set_option maxHeartbeats 4000000 in
theorem walks_any (n : Nat) (R : Nat → Nat → Bool) (Bx : Nat) (w : World) (hn : n ≤ 60)
    (hc : ∀ W i k, Below w.heap.size w W → i < n → k < n → Calls Tryd.prog 53 #[.int .i64 (i : Nat), .int .i64 (k : Nat), .pointer (some ⟨Bx, 0, none⟩)] W fun e w' => e = .returned (.bool (R i k)) ∧ Below W.heap.size W w') :
    Calls Tryd.prog 52 #[.int .i64 (n : Nat), .func (.func 53) #[] #[.pointer (some ⟨Bx, 0, none⟩)]] w fun e w' => ∃ v gs A, e = .returned v ∧ OutAt w' w.heap.size n v gs A ∧ gs.length = n ∧ (∀ i k, i < n → k < n → (A i k = true ↔ Way R n i k)) ∧ Below w.heap.size w w' := by
  have HC := hideIt hc
  clear hc
  go_enter Tryd.func52, Tryd.ntmps52
  go_wp2
  go_loopw [5, 12] (fun v i wr => ∃ (a : Nat) (gs : List Nat) (A : Nat → Nat → Bool), a ≤ n ∧ i = .int .i64 a ∧ gs.length = a ∧ OutAt wr w.heap.size n v gs A ∧ (∀ i k, i < a → k < n → (A i k = true ↔ Way R n i k)) ∧ Below w.heap.size w wr) (fun _ i _ => n - (intOf i).toNat)
  case atStart => exact ⟨0, [], fun _ _ => false, Nat.zero_le _, rfl, rfl, outAt_nil _ _ _ _, fun i k hi => absurd hi (by omega), Below.refl _ _⟩
  case round =>
    obtain ⟨a, gs, A, ha, rfl, hgs, hout, hA, hb⟩ := hrel
    have HOut := hideIt hout
    have HA := hideIt hA
    have HB := hideIt hb
    clear hout hA hb
    by_cases han : a < n
    · have hmk := made_bits wr n hn
      have HF1 : Hid (BitsAt ((wr.alloc (.cells (madeCells #[.bool false] n) 4)).alloc (.cells #[.int .i64 (a : Nat)] 3)) wr.heap.size n (fun _ => false) ∧
          RowAt ((wr.alloc (.cells (madeCells #[.bool false] n) 4)).alloc (.cells #[.int .i64 (a : Nat)] 3)) (wr.heap.size + 1) (.slice (some ⟨wr.heap.size + 1, 0, none⟩) 1 1) [(a : Int)] ∧
          Below wr.heap.size wr ((wr.alloc (.cells (madeCells #[.bool false] n) 4)).alloc (.cells #[.int .i64 (a : Nat)] 3)) ∧ wr.heap.size + 1 ≤ ((wr.alloc (.cells (madeCells #[.bool false] n) 4)).alloc (.cells #[.int .i64 (a : Nat)] 3)).heap.size) := by
        have hs : (wr.alloc (.cells (madeCells #[.bool false] n) 4)).heap.size = wr.heap.size + 1 := by simp
        have hnew := heap_alloc_new (wr.alloc (.cells (madeCells #[.bool false] n) 4)) (.cells #[.int .i64 (a : Nat)] 3)
        rw [hs] at hnew
        refine ⟨(bits_made wr n).block (Below.heap_alloc _ _ _ (by simp)), .inr ⟨wr.heap.size + 1, 0, 1, _, rfl, Nat.le_refl _, hnew, Nat.le_refl _, by simp, by decide, fun j hj => ?_⟩, belA (belA (Below.refl _ _) _) _, by simp⟩
        obtain rfl : j = 0 := by simp at hj; exact hj
        rw [cell_of_row _ _ _ _ 3 _ hnew]; rfl
      have HFr : Hid (∀ wz, Below wr.heap.size wr wz → Below w.heap.size w wz ∧ OutAt wz w.heap.size n u5 gs A ∧ (∀ k, u5.ownBlock = some k → k < wr.heap.size) ∧ w.heap.size ≤ wr.heap.size) := fun wz hz =>
        ⟨HB.out.trans (hz.mono HB.out.size), HOut.out.below hz (Nat.le_refl _), fun k hk => (HOut.out.row.lt k hk).2, HB.out.size⟩
      clear HOut HB
      go_wp2
      clear hmk
      generalize wr.heap.size = Z at HF1 HFr ⊢
      obtain ⟨wr_, HWR⟩ : ∃ wr_, Hid (wr = wr_) := ⟨_, hideIt rfl⟩
      rw [HWR.out] at HFr
      go_loopw [8] (fun v wz => ∃ (S : Nat → Bool) (todo : List Nat), RowAt wz (Z + 1) v (todo.map fun q : Nat => (q : Int)) ∧ BitsAt wz Z n S ∧ WalkT R n a S todo ∧ 2 * leftN S n + todo.length ≤ 2 * n + 1 ∧ Below Z wr_ wz ∧ Z + 1 ≤ wz.heap.size) (fun v wz => 2 * leftN (seenOf wz Z) n + lenOf v)
      case atStart =>
        obtain ⟨f1, f2, f3, f4⟩ := HF1.out
        exact ⟨fun _ => false, [a], f2, f1, WalkT.begin han, by have := leftN_le (fun _ => false) n; simp; omega, HWR.out ▸ f3, f4⟩
      case round =>
        clear HF1
        obtain ⟨S, todo, hrow, hbits, hwk, hms, hbz, hzs⟩ := hrel
        have HBits := hideIt hbits
        have HBz := hideIt hbz
        have HWk := hideIt hwk
        have HMs := hideIt hms
        have HM0 : Hid (2 * leftN (seenOf wr Z) n + lenOf u8 = 2 * leftN S n + todo.length) := by
          show 2 * leftN (seenOf wr Z) n + lenOf u8 = 2 * leftN S n + todo.length
          rw [seenOf_bits hbits, hrow.lenOf, List.length_map]
        clear hbits hbz hwk hms
        cases todo with
        | nil =>
          obtain ⟨va, vc, rfl⟩ := hrow.slice
          rw [List.map_nil, List.length_nil]
          have HOv : Hid (∀ k, k < n → (S k = true ↔ Way R n a k)) := fun k hk => HWk.out.over hk
          obtain ⟨g1, g2, g3, g4⟩ := HFr.out _ HBz.out
          have HO2 := hideIt g2
          have HG1 := hideIt g1
          have HLt := hideIt g3
          have HZ4 := hideIt g4
          clear g1 g2 g3 hrow
          go_wp2_with (at_builtin; refine wpList_append_rowG rfl _ _ rfl w.heap.size _ _ rfl ((HO2.out.row).block (fun k hk => Below.heap_alloc _ _ k (HO2.out.row.lt k hk).2)) wr.heap.size 1 (.slice (some ⟨Z, 0, none⟩) n n) rfl rfl ?c1 ?c2 ?c3 ?_)
          case c1 => simp
          case c2 => simp; omega
          case c3 => have := HG1.out.size; simp; omega
          intro v' w3 ht
          have HO3 : Hid (OutAt w3 w.heap.size n v' (gs ++ [Z]) (fun i => if i = gs.length then S else A i)) :=
            (HO2.out.below (belA (Below.refl _ _) _) (Nat.le_refl _)).more (HBits.out.below (belA (Below.refl _ _) _) HBits.out.lt) HZ4.out (fun e => by have := HLt.out Z e; omega) ht
          have HB3 : Hid (Below w.heap.size w w3) := (belA HG1.out _).grown ht.grown (by have := HG1.out.size; simp; omega) (fun k hk => (HO2.out.row.lt k hk).1)
          have HA3 : Hid (∀ i k, i < a + 1 → k < n → ((if i = gs.length then S else A i) k = true ↔ Way R n i k)) := fun i k hi hk => by
            by_cases e : i = gs.length
            · rw [if_pos e, e, hgs]; exact HOv.out k hk
            · rw [if_neg e]; exact HA.out i k (by omega) hk
          have HL3 : Hid ((gs ++ [Z]).length = a + 1) := by show (gs ++ [Z]).length = a + 1; rw [List.length_append, hgs]; rfl
          clear ht
          go_wp2
          go_roundw
          case rel => exact ⟨a + 1, _, _, by omega, by go_num, HL3.out, HO3.out, HA3.out, HB3.out⟩
          case measure => simp [intOf]; omega
        | cons i rest =>
          rw [map_cons_nat] at hrow
          obtain ⟨hin, _⟩ := HWk.out.mem i (by simp)
          have HWM := hideIt HWk.out.take
          have hrl : rest.length ≤ 200 := by have := HMs.out; simp at this; omega
          rcases hrow with ⟨_, h⟩ | ⟨g, off, cap, cur, hv, hgb, hgh, h1, h2, h3, h4⟩
          · cases h
          have HR0 : Hid (RowAt wr (Z + 1) (.slice (some ⟨g, off, none⟩) ((i : Int) :: rest.map fun q : Nat => (q : Int)).length cap) ((i : Int) :: rest.map fun q : Nat => (q : Int))) := .inr ⟨g, off, cap, cur, rfl, hgb, hgh, h1, h2, h3, h4⟩
          have HR1 := hideIt (HR0.out.drop1 (by simp))
          have c1 := h4 0 (by simp)
          rw [Nat.add_zero, List.getElem_cons_zero] at c1
          have hcap : cap ≤ 9223372036854775807 := by unfold maxLen at h3; omega
          have hlen : ((i : Int) :: rest.map fun q : Nat => (q : Int)).length = rest.length + 1 := by simp
          rw [hlen] at hv h1 HR1
          have HMr : Hid (2 * leftN S n + rest.length < 2 * leftN (seenOf wr Z) n + lenOf u8 ∧ 2 * leftN S n + rest.length ≤ 2 * n + 1) := by
            show 2 * leftN S n + rest.length < 2 * leftN (seenOf wr Z) n + lenOf u8 ∧ 2 * leftN S n + rest.length ≤ 2 * n + 1
            have h5 := HM0.out
            have h6 := HMs.out
            simp at h5 h6
            omega
          subst hv
          rw [show (List.drop 1 ((i : Int) :: rest.map fun q : Nat => (q : Int))) = rest.map (fun q : Nat => (q : Int)) from rfl, show rest.length + 1 - 1 = rest.length from rfl] at HR1
          have k1 : (1 : Int) ≤ (rest.length : Int) + 1 := by omega
          have k2 : (rest.length : Int) + 1 ≤ (cap : Int) := by omega
          have k3 : (0 : Int) < (rest.length : Int) + 1 := by omega
          have k5 : (1 : Int) ≤ (cap : Int) := by omega
          clear HR0 HWk HM0 HMs h4 hgh h2 h3 hgb hlen
          obtain ⟨Q0, HQ⟩ : ∃ Q0, Hid (2 * leftN S n + rest.length ≤ Q0 ∧ Q0 < 2 * leftN (seenOf wr Z) n + lenOf (.slice (some ⟨g, off, none⟩) (rest.length + 1) cap) ∧ Q0 ≤ 2 * n + 1) := ⟨_, hideIt ⟨Nat.le_refl _, HMr.out⟩⟩
          clear HMr
          by_cases hc1 : cap = 1
          · subst hc1
            have HR2 : Hid (RowAt wr (Z + 1) (.slice (some ⟨g, off, none⟩) rest.length 0) (rest.map fun q : Nat => (q : Int))) := by
              have := HR1.out
              rw [if_pos rfl] at this
              exact this
            clear HR1 h1
            go_wp2
            clear k1 k2 k3 k5
            go_loopw [8, 28] (fun v q wz => ∃ (k : Nat) (S : Nat → Bool) (todo : List Nat), k ≤ n ∧ q = .int .i64 k ∧ RowAt wz (Z + 1) v (todo.map fun q : Nat => (q : Int)) ∧ BitsAt wz Z n S ∧ WalkM R n a i k S todo ∧ 2 * leftN S n + todo.length ≤ Q0 ∧ Below Z wr_ wz ∧ Z + 1 ≤ wz.heap.size) (fun _ q _ => n - (intOf q).toNat)
            case atStart => exact ⟨0, S, rest, Nat.zero_le _, rfl, HR2.out, HBits.out, HWM.out, HQ.out.1, HBz.out, hzs⟩
            case round =>
              clear HR2 HBits HWM HBz hzs hrl
              obtain ⟨k, S, todo, hk, rfl, hrow, hbits, hwm, hms, hbz, hzs⟩ := hrel
              have HRow := hideIt hrow
              have HBits := hideIt hbits
              have HWM := hideIt hwm
              have HMs := hideIt hms
              have HBz := hideIt hbz
              have htl : todo.length ≤ 200 := by have := HQ.out.2.2; omega
              clear hrow hbits hwm hms hbz
              by_cases hkn : k < n
              · have HCa := hideIt (HC.out wr i k (HFr.out _ HBz.out).1 hin hkn)
                cases hR : R i k
                · rw [hR] at HCa
                  have R1 := hideIt (HWM.out.skip (by rw [hR]; rfl))
                  clear hR
                  go_wp2_with (go_at_call 53; refine HCa.out.mono ?_; rintro e w2 ⟨rfl, hb2⟩)
                  go_roundw
                  case rel => exact ⟨k + 1, S, todo, by omega, by go_num, HRow.out.belowR hb2, HBits.out.below hb2 HBits.out.lt, R1.out, HMs.out, HBz.out.trans (hb2.mono (Nat.le_of_lt HBits.out.lt)), Nat.le_trans hzs hb2.size⟩
                  case measure => simp [intOf]; omega
                · rw [hR] at HCa
                  cases hS : S k
                  · have hRS : (R i k && !S k) = true := by rw [hR, hS]; rfl
                    have R1 := hideIt (HWM.out.go hkn hRS)
                    have R2 : Hid (2 * leftN (putB S k) n + (todo ++ [k]).length ≤ Q0) := by
                      show 2 * leftN (putB S k) n + (todo ++ [k]).length ≤ Q0
                      have h1 := (leftN_put hS n).2 hkn
                      have h2 := HMs.out
                      rw [List.length_append, List.length_singleton]
                      omega
                    have HK : Hid (∀ w2, Below wr.heap.size wr w2 → w2.cell? ⟨Z, k, none⟩ = some (.bool false) ∧ w2.frozen? ⟨Z, k, none⟩ = false ∧ BitsAt w2 Z n S ∧ RowAt w2 (Z + 1) u8 (todo.map fun q : Nat => (q : Int)) ∧ Below Z wr_ w2 ∧ Z + 1 ≤ w2.heap.size) := fun w2 hb2 => by
                      have hbb := HBits.out.below hb2 HBits.out.lt
                      exact ⟨by rw [hbb.bit k hkn, hS], hbb.fz k, hbb, HRow.out.belowR hb2, HBz.out.trans (hb2.mono (Nat.le_of_lt HBits.out.lt)), Nat.le_trans hzs hb2.size⟩
                    clear hR hS hRS
                    go_wp2_with (first | (go_at_call 53; refine HCa.out.mono ?_; rintro e w2 ⟨rfl, hb2⟩; obtain ⟨k1, k2, hbb, hrr, hbz2, hzs2⟩ := HK.out w2 hb2; have HBB := hideIt hbb; have HRR := hideIt hrr; have HBZ2 := hideIt hbz2; clear hbb hrr hbz2) | (at_builtin; refine wpList_append_row rfl _ _ rfl (Z + 1) u8 (todo.map fun q : Nat => (q : Int)) rfl ((HRR.out.setOther (p := ⟨Z, k, none⟩) (Nat.lt_succ_self Z) (.bool true)).belowR (belA (Below.refl _ _) _)) w2.heap.size 1 (k : Int) rfl ?c1 ?c2 ?c3 ?_))
                    case c1 => exact cell_new_set w2 Z k
                    case c2 => simp; omega
                    case c3 => simp; omega
                    intro v' w3 ht
                    obtain ⟨g1, g2, g3, g4⟩ := step_seen HBB.out hkn HRR.out HBZ2.out ht
                    have HG1 := hideIt g1
                    have HG2 : Hid (RowAt w3 (Z + 1) v' ((todo ++ [k]).map fun q : Nat => (q : Int))) := by
                      show RowAt w3 (Z + 1) v' ((todo ++ [k]).map fun q : Nat => (q : Int))
                      rw [List.map_append]; exact g2
                    have HG3 := hideIt g3
                    have hg4 : Z + 1 ≤ w3.heap.size := Nat.le_trans hzs2 g4
                    clear ht g1 g2 g3 g4
                    go_wp2
                    go_roundw
                    case rel => exact ⟨k + 1, _, _, by omega, by go_num, HG2.out, HG1.out, R1.out, R2.out, HG3.out, hg4⟩
                    case measure => simp [intOf]; omega
                  · have R1 := hideIt (HWM.out.skip (by rw [hS]; simp))
                    have HK : Hid (∀ w2, Below wr.heap.size wr w2 → w2.cell? ⟨Z, k, none⟩ = some (.bool true)) := fun w2 hb2 => by
                      rw [(HBits.out.below hb2 HBits.out.lt).bit k hkn, hS]
                    clear hR hS
                    go_wp2_with (go_at_call 53; refine HCa.out.mono ?_; rintro e w2 ⟨rfl, hb2⟩; have k1 := HK.out w2 hb2)
                    go_roundw
                    case rel => exact ⟨k + 1, S, todo, by omega, by go_num, HRow.out.belowR hb2, HBits.out.below hb2 HBits.out.lt, R1.out, HMs.out, HBz.out.trans (hb2.mono (Nat.le_of_lt HBits.out.lt)), Nat.le_trans hzs hb2.size⟩
                    case measure => simp [intOf]; omega
              · obtain rfl : k = n := by omega
                have R1 := hideIt HWM.out.close
                have R2 : Hid (2 * leftN (seenOf wr Z) k + lenOf u8 = 2 * leftN S k + todo.length) := by
                  show 2 * leftN (seenOf wr Z) k + lenOf u8 = 2 * leftN S k + todo.length
                  rw [seenOf_bits HBits.out, HRow.out.lenOf, List.length_map]
                go_wp2
                go_roundw
                case rel => exact ⟨S, todo, HRow.out, HBits.out, R1.out, by have := HMs.out; have := HQ.out.2.2; omega, HBz.out, hzs⟩
                case measure =>
                  have h1 := R2.out
                  have h2 := HMs.out
                  have h3 := HQ.out.2.1
                  first | omega | (simp; omega)
          · have HR2 : Hid (RowAt wr (Z + 1) (.slice (some ⟨g, off + 1, none⟩) rest.length (cap - 1)) (rest.map fun q : Nat => (q : Int))) := by
              have := HR1.out
              rw [if_neg hc1] at this
              exact this
            clear HR1 h1
            go_wp2
            clear k1 k2 k3 k5 hc1
            go_loopw [8, 28] (fun v q wz => ∃ (k : Nat) (S : Nat → Bool) (todo : List Nat), k ≤ n ∧ q = .int .i64 k ∧ RowAt wz (Z + 1) v (todo.map fun q : Nat => (q : Int)) ∧ BitsAt wz Z n S ∧ WalkM R n a i k S todo ∧ 2 * leftN S n + todo.length ≤ Q0 ∧ Below Z wr_ wz ∧ Z + 1 ≤ wz.heap.size) (fun _ q _ => n - (intOf q).toNat)
            case atStart => exact ⟨0, S, rest, Nat.zero_le _, rfl, HR2.out, HBits.out, HWM.out, HQ.out.1, HBz.out, hzs⟩
            case round =>
              clear HR2 HBits HWM HBz hzs hrl
              obtain ⟨k, S, todo, hk, rfl, hrow, hbits, hwm, hms, hbz, hzs⟩ := hrel
              have HRow := hideIt hrow
              have HBits := hideIt hbits
              have HWM := hideIt hwm
              have HMs := hideIt hms
              have HBz := hideIt hbz
              have htl : todo.length ≤ 200 := by have := HQ.out.2.2; omega
              clear hrow hbits hwm hms hbz
              by_cases hkn : k < n
              · have HCa := hideIt (HC.out wr i k (HFr.out _ HBz.out).1 hin hkn)
                cases hR : R i k
                · rw [hR] at HCa
                  have R1 := hideIt (HWM.out.skip (by rw [hR]; rfl))
                  clear hR
                  go_wp2_with (go_at_call 53; refine HCa.out.mono ?_; rintro e w2 ⟨rfl, hb2⟩)
                  go_roundw
                  case rel => exact ⟨k + 1, S, todo, by omega, by go_num, HRow.out.belowR hb2, HBits.out.below hb2 HBits.out.lt, R1.out, HMs.out, HBz.out.trans (hb2.mono (Nat.le_of_lt HBits.out.lt)), Nat.le_trans hzs hb2.size⟩
                  case measure => simp [intOf]; omega
                · rw [hR] at HCa
                  cases hS : S k
                  · have hRS : (R i k && !S k) = true := by rw [hR, hS]; rfl
                    have R1 := hideIt (HWM.out.go hkn hRS)
                    have R2 : Hid (2 * leftN (putB S k) n + (todo ++ [k]).length ≤ Q0) := by
                      show 2 * leftN (putB S k) n + (todo ++ [k]).length ≤ Q0
                      have h1 := (leftN_put hS n).2 hkn
                      have h2 := HMs.out
                      rw [List.length_append, List.length_singleton]
                      omega
                    have HK : Hid (∀ w2, Below wr.heap.size wr w2 → w2.cell? ⟨Z, k, none⟩ = some (.bool false) ∧ w2.frozen? ⟨Z, k, none⟩ = false ∧ BitsAt w2 Z n S ∧ RowAt w2 (Z + 1) u8 (todo.map fun q : Nat => (q : Int)) ∧ Below Z wr_ w2 ∧ Z + 1 ≤ w2.heap.size) := fun w2 hb2 => by
                      have hbb := HBits.out.below hb2 HBits.out.lt
                      exact ⟨by rw [hbb.bit k hkn, hS], hbb.fz k, hbb, HRow.out.belowR hb2, HBz.out.trans (hb2.mono (Nat.le_of_lt HBits.out.lt)), Nat.le_trans hzs hb2.size⟩
                    clear hR hS hRS
                    go_wp2_with (first | (go_at_call 53; refine HCa.out.mono ?_; rintro e w2 ⟨rfl, hb2⟩; obtain ⟨k1, k2, hbb, hrr, hbz2, hzs2⟩ := HK.out w2 hb2; have HBB := hideIt hbb; have HRR := hideIt hrr; have HBZ2 := hideIt hbz2; clear hbb hrr hbz2) | (at_builtin; refine wpList_append_row rfl _ _ rfl (Z + 1) u8 (todo.map fun q : Nat => (q : Int)) rfl ((HRR.out.setOther (p := ⟨Z, k, none⟩) (Nat.lt_succ_self Z) (.bool true)).belowR (belA (Below.refl _ _) _)) w2.heap.size 1 (k : Int) rfl ?c1 ?c2 ?c3 ?_))
                    case c1 => exact cell_new_set w2 Z k
                    case c2 => simp; omega
                    case c3 => simp; omega
                    intro v' w3 ht
                    obtain ⟨g1, g2, g3, g4⟩ := step_seen HBB.out hkn HRR.out HBZ2.out ht
                    have HG1 := hideIt g1
                    have HG2 : Hid (RowAt w3 (Z + 1) v' ((todo ++ [k]).map fun q : Nat => (q : Int))) := by
                      show RowAt w3 (Z + 1) v' ((todo ++ [k]).map fun q : Nat => (q : Int))
                      rw [List.map_append]; exact g2
                    have HG3 := hideIt g3
                    have hg4 : Z + 1 ≤ w3.heap.size := Nat.le_trans hzs2 g4
                    clear ht g1 g2 g3 g4
                    go_wp2
                    go_roundw
                    case rel => exact ⟨k + 1, _, _, by omega, by go_num, HG2.out, HG1.out, R1.out, R2.out, HG3.out, hg4⟩
                    case measure => simp [intOf]; omega
                  · have R1 := hideIt (HWM.out.skip (by rw [hS]; simp))
                    have HK : Hid (∀ w2, Below wr.heap.size wr w2 → w2.cell? ⟨Z, k, none⟩ = some (.bool true)) := fun w2 hb2 => by
                      rw [(HBits.out.below hb2 HBits.out.lt).bit k hkn, hS]
                    clear hR hS
                    go_wp2_with (go_at_call 53; refine HCa.out.mono ?_; rintro e w2 ⟨rfl, hb2⟩; have k1 := HK.out w2 hb2)
                    go_roundw
                    case rel => exact ⟨k + 1, S, todo, by omega, by go_num, HRow.out.belowR hb2, HBits.out.below hb2 HBits.out.lt, R1.out, HMs.out, HBz.out.trans (hb2.mono (Nat.le_of_lt HBits.out.lt)), Nat.le_trans hzs hb2.size⟩
                    case measure => simp [intOf]; omega
              · obtain rfl : k = n := by omega
                have R1 := hideIt HWM.out.close
                have R2 : Hid (2 * leftN (seenOf wr Z) k + lenOf u8 = 2 * leftN S k + todo.length) := by
                  show 2 * leftN (seenOf wr Z) k + lenOf u8 = 2 * leftN S k + todo.length
                  rw [seenOf_bits HBits.out, HRow.out.lenOf, List.length_map]
                go_wp2
                go_roundw
                case rel => exact ⟨S, todo, HRow.out, HBits.out, R1.out, by have := HMs.out; have := HQ.out.2.2; omega, HBz.out, hzs⟩
                case measure =>
                  have h1 := R2.out
                  have h2 := HMs.out
                  have h3 := HQ.out.2.1
                  first | omega | (simp; omega)
    · obtain rfl : a = n := by omega
      go_wp2
      go_ret
      exact ⟨_, gs, A, rfl, HOut.out, hgs, HA.out, HB.out⟩

end Go.Proofs.YtodanhjookgbeaaDoor
