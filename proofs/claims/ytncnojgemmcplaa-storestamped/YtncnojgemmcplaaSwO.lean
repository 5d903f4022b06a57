/-
  The program's store, walked: spread.
-/
import Derived.Test.YtncnojgemmcplaaSwMZ
namespace Go.Proofs.Ytncnojgemmcplaa
open Go.RowKit

/-- Links that are made. -/
def DrawL (w : World) (n : Nat) (r : Nat → Nat → Bool) (e : Ending) (w' : World) : Prop := ∃ lv, e = .returned lv ∧ LnkS w' (fun b => w.heap.size ≤ b ∧ LTg w' b) lv (tabL n r) ∧ (∃ a n c, lv = .slice (some a) n c) ∧ Below w.heap.size w w'
section
variable {w0 W W' : World} {K : StK} {P : Pst}
set_option maxRecDepth 100000 in
theorem spread_nil (B : Nat) (w : World) : Calls Try.prog 43 #[.pointer (some ⟨B, 0, none⟩), .slice none 0 0] w fun e w' => e = .returned (.slice none 0 0) ∧ w' = w := by
  have hnil := nilEqL w
  go_enter Try.func43, Try.ntmps43
  go_wp2
  go_ret
  exact ⟨rfl, rfl⟩
set_option maxRecDepth 100000 in
set_option maxHeartbeats 8000000 in
theorem spread_any (h : StoP w0 W K P) (hn1 : 1 ≤ P.n) (hn7 : P.n ≤ 7) (hk8 : P.k ≤ 8) (r : Nat → Nat → Bool) (X : Nat → Prop) (l : Value) (hl : LnkS W X l (tabL P.n r)) :
    Calls Try.prog 43 #[.pointer (some ⟨K.B, 0, none⟩), l] W fun e w' => DrawL W (P.n + P.k) (fun a b => r (a % P.n) (b % P.n)) e w' := by
  obtain ⟨g, off, cap, e0, _⟩ := hl.tab (show 0 < P.n by omega)
  have HRow : Hid (∀ Z, Below W.heap.size W Z → ∀ i, i < P.n → ∃ rg ro rc, rg < W.heap.size ∧ Z.cell? ⟨g, off + i, none⟩ = some (.slice (some ⟨rg, ro, none⟩) P.n rc) ∧ ∀ j, j < P.n → Z.cell? ⟨rg, ro + j, none⟩ = some (.bool (r i j))) := fun Z hZ i hi => by
    obtain ⟨g', off', cap', e', rg, ro, rc, h1, h2⟩ := hl.tab hi
    rw [e0] at e'
    cases e'
    have hlt : rg < W.heap.size := World.block_lt_of_cell? W _ (h2 0 (by omega))
    have hlg : g < W.heap.size := World.block_lt_of_cell? W _ h1
    exact ⟨rg, ro, rc, hlt, (hZ.cell (p := ⟨g, off + i, none⟩) hlg).trans h1, fun j hj => (hZ.cell (p := ⟨rg, ro + j, none⟩) hlt).trans (h2 j hj)⟩
  subst e0
  have HNd : Hid (∀ Z, Below W.heap.size W Z → ∀ i : Nat, Calls Try.prog 54 #[.pointer (some ⟨K.B, 0, none⟩), .int .i64 (i : Int)] Z fun e w' => e = .returned (.int .i64 ((i % P.n : Nat) : Int)) ∧ w' = Z) := fun Z hZ i => nodeOf_any (h.below hZ) hn1 i
  have hnil := nilNeL W ⟨g, off, none⟩ P.n cap
  obtain ⟨⟨c0, c1, _⟩, _⟩ := h.cells
  obtain ⟨N, hN⟩ : ∃ N, P.n + P.k = N := ⟨_, rfl⟩
  have hN15 : 1 ≤ N ∧ N ≤ 15 := by omega
  have hw : IntKind.i64.wrap ((P.n : Int) + (P.k : Int)) = (N : Int) := by rw [← hN]; exact IntWalk.i64_in _ (by omega)
  have hmk : ∀ w, (Instr.makeSlice 53 (.int .i64 (N : Int)) (.int .i64 (N : Int))).run Try.prog w = .ok (.slice (some ⟨w.heap.size, 0, none⟩) N N) (w.alloc (.cells (madeCells #[.slice none 0 0] N) 97)) := fun w => made_rows w N (by omega)
  have HMod : Hid (∀ i : Nat, i % P.n < P.n) := fun i => Nat.mod_lt _ (by omega)
  have HSp : Hid (∀ (e : Ending) (w' : World), DrawL W N (fun a b => r (a % P.n) (b % P.n)) e w' → DrawL W (P.n + P.k) (fun a b => r (a % P.n) (b % P.n)) e w') := fun e w' hd => by rw [hN]; exact hd
  clear hl h hN
  generalize P.n = n at *
  generalize P.k = k at *
  have HR : Hid (∀ a b : Nat, (fun a b => r (a % n) (b % n)) a b = r (a % n) (b % n)) := fun _ _ => rfl
  generalize (fun a b => r (a % n) (b % n)) = R at *
  go_enter Try.func43, Try.ntmps43
  have HMa : Hid (MatAt (W.alloc (.cells (madeCells #[.slice none 0 0] N) 97)).drew W.heap.size W.heap.size N 0 (fun _ => 0) R) := ((mat_made W N).same fun i k hi => absurd hi (by omega)).drew
  have HBa : Hid (Below W.heap.size W (W.alloc (.cells (madeCells #[.slice none 0 0] N) 97)).drew) := (belA (Below.refl _ _) _).drew
  go_upto_region 3 with fail
  go_region
  clear hmk hw hnil c0 c1
  go_wp2
  generalize (W.alloc _).drew = W1 at HMa HBa ⊢
  go_loopw [26] (fun v wr => ∃ (m : Nat) (cb : Nat → Nat), m ≤ N ∧ v = .int .i64 m ∧ MatAt wr W.heap.size W.heap.size N m cb R ∧ Below W.heap.size W wr) (fun v _ => N - (intOf v).toNat)
  case atStart => exact ⟨0, _, Nat.zero_le _, rfl, HMa.out, HBa.out⟩
  case round =>
    clear HMa HBa W1
    obtain ⟨m, cb, hm, rfl, hM, hb⟩ := hrel
    have HM := hideIt hM
    have HB := hideIt hb
    clear hM hb
    by_cases hmn : m < N
    · have hmn' : (m : Int) < N := by omega
      have HN1c := hideIt (HNd.out wr HB.out m)
      have hmod := HMod.out m
      obtain ⟨rg, ro, rc, hrl, h1, h2⟩ := HRow.out wr HB.out (m % n) hmod
      have hmod' : ((m % n : Nat) : Int) < (n : Int) := by omega
      have HRr : Hid (∀ Z, Below W.heap.size W Z → ∀ j, j < n → Z.cell? ⟨rg, ro + j, none⟩ = some (.bool (r (m % n) j))) := fun Z hZ j hj => (hZ.cell (p := ⟨rg, ro + j, none⟩) hrl).trans ((HB.out.cell (p := ⟨rg, ro + j, none⟩) hrl).symm.trans (h2 j hj))
      clear h2 hmod
      have Hrl := hideIt hrl
      clear hrl
      go_wp2_with fail
      refine HN1c.out.mono ?_
      rintro e V ⟨rfl, rfl⟩
      clear HN1c
      generalize hi0 : m % n = i0 at *
      have hmk2 := made_bits V N (by omega)
      have HMa := hideIt (HM.out.alloc (.cells (madeCells #[.bool false] N) 4))
      have HN1 := hideIt (bits_made V N)
      have hBl := HM.out.lt
      have hBs := HB.out.size
      obtain ⟨ov, hov⟩ := HMa.out.room m hmn
      have hfz := HMa.out.fz m
      have HB1 : Hid (Below W.heap.size W ((V.alloc (.cells (madeCells #[.bool false] N) 4)).setCell ⟨W.heap.size, m, none⟩ (.slice (some ⟨V.heap.size, 0, none⟩) N N))) := (belA HB.out _).setCell (p := ⟨W.heap.size, m, none⟩) (Nat.le_refl _) _
      have HM2 : Hid (MatAt ((V.alloc (.cells (madeCells #[.bool false] N) 4)).setCell ⟨W.heap.size, m, none⟩ (.slice (some ⟨V.heap.size, 0, none⟩) N N)) W.heap.size W.heap.size N (m + 1) (fun i => if i = m then V.heap.size else cb i) (midB R m 0)) :=
        (HMa.out.add hmn HN1.out hBs (by omega) (fun i hi => Nat.ne_of_lt (HM.out.row i hi).lt)).same fun i k _ _ => by
          unfold midB
          by_cases e : i = m
          · rw [if_pos e, if_pos ⟨e, Nat.zero_le _⟩]
          · rw [if_neg e, if_neg (fun h => e h.1)]
      rw [World.setCell_alloc_past _ _ _ _ hBl] at HM2 HB1
      have hc2 := HM2.out.head m (Nat.lt_succ_self m)
      rw [if_pos rfl] at hc2
      clear HMa HN1 HM
      go_wp2
      clear hmk2 hov hfz hc2 h1
      generalize (V.setCell _ _).alloc _ = W2 at HB1 HM2 ⊢
      obtain ⟨cb1, HM2⟩ : ∃ cb1, Hid (MatAt W2 W.heap.size W.heap.size N (m + 1) cb1 (midB R m 0)) := ⟨_, HM2⟩
      clear HB hBl hBs
      go_loopw [46] (fun v wz => ∃ k : Nat, k ≤ N ∧ v = .int .i64 k ∧ MatAt wz W.heap.size W.heap.size N (m + 1) cb1 (midB R m k) ∧ Below W.heap.size W wz) (fun v _ => N - (intOf v).toNat)
      case atStart => exact ⟨0, Nat.zero_le _, rfl, HM2.out, HB1.out⟩
      case round =>
        clear HM2 HB1
        obtain ⟨k, hk, rfl, hM, hb⟩ := hrel
        have HM := hideIt hM
        have HB := hideIt hb
        clear hM hb
        by_cases hkn : k < N
        · have hkn' : (k : Int) < N := by omega
          have hge := (HM.out.from_ m (by omega)).1
          have HNk := hideIt (HNd.out wr HB.out k)
          have hkmod := HMod.out k
          have hkmod' : ((k % n : Nat) : Int) < (n : Int) := by omega
          have hkd : decide (((k % n : Nat) : Int) < (n : Int)) = true := decide_eq_true hkmod'
          have hc1 : wr.cell? ⟨W.heap.size, m, none⟩ = some (.slice (some ⟨cb1 m, 0, none⟩) N N) := HM.out.head m (by omega)
          have hc3 : wr.cell? ⟨rg, ro + k % n, none⟩ = some (.bool (R m k)) := by rw [HR.out, hi0]; exact HRr.out wr HB.out _ hkmod
          have HPut : Hid (∀ Z : World, Below wr.heap.size wr Z → (MatAt (Z.setCell ⟨cb1 m, k, none⟩ (.bool (R m k))) W.heap.size W.heap.size N (m + 1) cb1 (midB R m (k + 1)) ∧ Below W.heap.size W (Z.setCell ⟨cb1 m, k, none⟩ (.bool (R m k)))) ∧ Z.cell? ⟨cb1 m, k, none⟩ = some (.bool (midB R m k m k)) ∧ Z.frozen? ⟨cb1 m, k, none⟩ = false) := fun Z hZ =>
            ⟨⟨((HM.out.below hZ).put (by omega) hkn _).same fun i b _ _ => midB_put R m k _ rfl i b, (belJ HB.out hZ).setCell (p := ⟨cb1 m, k, none⟩) hge _⟩, ((HM.out.below hZ).row m (by omega)).bit k hkn, ((HM.out.below hZ).row m (by omega)).fz k⟩
          obtain ⟨hp1, hp2, hp3⟩ := HPut.out _ (Below.refl _ _)
          have R1 := hideIt hp1
          clear hkmod HM HPut hp1
          go_wp2_with fail
          refine HNk.out.mono ?_
          rintro e V2 ⟨rfl, rfl⟩
          clear HNk
          generalize hk0 : k % n = kk at *
          go_upto_region 13 with fail
          go_region
          go_wp2
          go_roundw
          case rel => exact ⟨k + 1, by omega, by go_num, R1.out.1.drew, R1.out.2.drew⟩
          case measure => simp [intOf]; omega
        · obtain rfl : k = N := by omega
          have R1 : Hid (MatAt wr W.heap.size W.heap.size k (m + 1) cb1 R) := HM.out.same fun i b _ hb => midB_end _ _ _ _ _ hb
          go_wp2
          go_roundw
          case rel => exact ⟨m + 1, cb1, by omega, by go_num, R1.out, HB.out⟩
          case measure => simp [intOf]; omega
    · obtain rfl : m = N := by omega
      go_wp2
      go_ret
      exact HSp.out _ _ ⟨_, rfl, HM.out.links, ⟨_, _, _, rfl⟩, HB.out⟩
end
end Go.Proofs.Ytncnojgemmcplaa
