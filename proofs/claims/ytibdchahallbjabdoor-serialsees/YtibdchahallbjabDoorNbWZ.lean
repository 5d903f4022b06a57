/-
  The document's own 'number' and 'last', walked: a step's number in its transaction; who wrote a key last.
  The document's own 'seen', walked: what each read reads, and who writes each key last, in a map.
  Chapter 11.3 in plain Lean, the document's search: steps transaction by transaction; when a row of all is told to fit.
-/
import Derived.Test.YtibdchahallbjabDoorMpT
import Derived.Test.YtibdchahallbjabDoorSrPZ
import Derived.Test.YtibdchahallbjabDoorRgL
import Derived.Test.YtibdchahallbjabDoorCsW
import Derived.Test.YtibdchahallbjabDoorCyWZ
import Derived.Test.YtibdchahallbjabDoorVwWZ
import Derived.Test.YtibdchahallbjabDoorBhPZ
namespace Go.Proofs.YtibdchahallbjabDoor
open Go.RowKit

set_option maxRecDepth 100000 in
set_option maxHeartbeats 2000000 in
theorem number_any (m : List Stp) (i : Nat) (hi : i < m.length) (a : Option Addr) (cap Bx : Nat) (w : World) (hn : m.length ≤ 700) (hl : StpsQ w a m) (hB : w.cell? ⟨Bx, 0, none⟩ = some (.slice a m.length cap)) :
    Calls Tryd.prog 57 #[.int .i64 (i : Nat), .pointer (some ⟨Bx, 0, none⟩)] w fun e w' => e = .returned (.int .i64 (numS m i : Nat)) ∧ Below w.heap.size w w' := by
  obtain ⟨b, off, rfl, hlt, hst⟩ : ∃ b off, a = some ⟨b, off, none⟩ ∧ b < w.heap.size ∧ StpsAt w b off m := by
    rcases hl with h | h
    · subst h; simp at hi
    · exact h
  have hBl := World.block_lt_of_cell? w _ hB
  have HBx := hideIt hB
  have HSt := hideIt hst
  have HEnd : Hid (((m.take i).countP fun s => s.p == m[i].p) = numS m i) := by
    show _ = _
    unfold numS
    rw [stZ_at hi]
  have hI0 := (hst i hi).1
  generalize m[i] = y at HEnd hI0
  clear hl hst hB
  have hil : (i : Int) < m.length := by omega
  go_enter Tryd.func57, Tryd.ntmps57
  go_wp2
  go_loopw [4, 7] (fun n v wr => ∃ k : Nat, k ≤ i ∧ v = .int .i64 k ∧ n = .int .i64 ((m.take k).countP (fun s => s.p == y.p) : Nat) ∧ Below w.heap.size w wr) (fun _ v _ => i - (intOf v).toNat)
  case atStart => exact ⟨0, Nat.zero_le _, rfl, rfl, Below.refl _ _⟩
  case round =>
    obtain ⟨k, hk, rfl, rfl, hb⟩ := hrel
    have HB := hideIt hb
    clear hb
    by_cases hki : k < i
    · have hkl : k < m.length := by omega
      have bx := (HB.out.cell (p := ⟨Bx, 0, none⟩) hBl).trans HBx.out
      have c0 := ((HSt.out k hkl).below hlt HB.out).1
      have d0 := (HB.out.cell (p := ⟨b, off + i * 3, none⟩) hlt).trans hI0
      have HX : Hid ((m.take (k + 1)).countP (fun s => s.p == y.p) = (m.take k).countP (fun s => s.p == y.p) + if (m[k].p == y.p) = true then 1 else 0) := by
        show _ = _
        rw [List.take_succ_eq_append_getElem hkl, List.countP_append]
        simp [List.countP_cons]
      have hle : (m.take k).countP (fun s => s.p == y.p) ≤ 700 := Nat.le_trans List.countP_le_length (by rw [List.length_take]; omega)
      generalize m[k] = x at c0 HX
      generalize (m.take k).countP (fun s => s.p == y.p) = cn at HX hle ⊢
      have hki' : (k : Int) < i := by omega
      have hkl' : (k : Int) < m.length := by omega
      have HBn : Hid (∀ n, Below w.heap.size w (wr.drewN n)) := fun n => below_drewN HB.out n
      go_upto_region 5 with fail
      by_cases he : x.p = y.p
      · have he' : (x.p == y.p) = true := by simp [he]
        rw [if_pos he'] at HX
        clear he
        go_quiet (fail)
        go_wp2
        go_roundw
        case rel => exact ⟨k + 1, by omega, by go_num, by rw [HX.out]; go_num, HBn.out _⟩
        case measure => simp [intOf]; omega
      · have he' : (x.p == y.p) = false := by simp [he]
        rw [if_neg (by rw [he']; simp)] at HX
        clear he
        go_quiet (fail)
        go_wp2
        go_roundw
        case rel => exact ⟨k + 1, by omega, by go_num, by rw [HX.out]; go_num, HBn.out _⟩
        case measure => simp [intOf]; omega
    · obtain rfl : k = i := by omega
      rw [HEnd.out]
      go_wp2
      go_ret
      exact ⟨rfl, HB.out⟩

/-- A list of two numbers in a block of its own. -/
structure TwoAt (w : World) (base g : Nat) (v : Int × Int) : Prop where
  lo : base ≤ g
  c0 : w.cell? ⟨g, 0, none⟩ = some (.int .i64 v.1)
  c1 : w.cell? ⟨g, 1, none⟩ = some (.int .i64 v.2)
theorem TwoAt.lt {w : World} {base g : Nat} {v : Int × Int} (h : TwoAt w base g v) : g < w.heap.size := World.block_lt_of_cell? w _ h.c0
theorem TwoAt.below {w w' : World} {base g B : Nat} {v : Int × Int} (h : TwoAt w base g v) (hb : Below B w w') (hg : g < B) : TwoAt w' base g v := ⟨h.lo, (hb.cell (p := ⟨g, 0, none⟩) hg).trans h.c0, (hb.cell (p := ⟨g, 1, none⟩) hg).trans h.c1⟩
theorem twoAt_new (w : World) (base : Nat) (hb : base ≤ w.heap.size) (x y : Int) : TwoAt (w.alloc (.cells #[.int .i64 x, .int .i64 y] 3)) base w.heap.size (x, y) := ⟨hb, by simp, by simp⟩

set_option maxRecDepth 100000 in
set_option maxHeartbeats 4000000 in
theorem last_any (m : List Stp) (e0 : Nat) (he0 : e0 ≤ m.length) (key : Int) (a : Option Addr) (cap Bx Nb : Nat) (w : World) (hn : m.length ≤ 700) (hl : StpsQ w a m) (hB : w.cell? ⟨Bx, 0, none⟩ = some (.slice a m.length cap)) (hN : w.cell? ⟨Nb, 0, none⟩ = some (.func (Fn.func 57) #[] #[.pointer (some ⟨Bx, 0, none⟩)])) :
    Calls Tryd.prog 58 #[.int .i64 (e0 : Nat), .int .i64 key, .pointer (some ⟨Bx, 0, none⟩), .pointer (some ⟨Nb, 0, none⟩)] w fun e w' => ∃ g, e = .returned (two g) ∧ TwoAt w' w.heap.size g (lastT m e0 key) ∧ Below w.heap.size w w' := by
  have HL := hideIt hl
  have HX0 : Hid (∀ W, Below w.heap.size w W → W.cell? ⟨Bx, 0, none⟩ = some (.slice a m.length cap)) := fun W hW => (hW.cell (p := ⟨Bx, 0, none⟩) (World.block_lt_of_cell? w _ hB)).trans hB
  have HX1 : Hid (∀ W, Below w.heap.size w W → W.cell? ⟨Nb, 0, none⟩ = some (.func (Fn.func 57) #[] #[.pointer (some ⟨Bx, 0, none⟩)])) := fun W hW => (hW.cell (p := ⟨Nb, 0, none⟩) (World.block_lt_of_cell? w _ hN)).trans hN
  have HNm : Hid (∀ k W, k < m.length → Below w.heap.size w W → Calls Tryd.prog 57 #[.int .i64 (k : Nat), .pointer (some ⟨Bx, 0, none⟩)] W fun e w' => e = .returned (.int .i64 (numS m k : Nat)) ∧ Below W.heap.size W w') := fun k W hk hW => number_any m k hk a cap Bx W hn (hl.below hW) (HX0.out W hW)
  have HNone : Hid ((∀ j, j < e0 → wB m key j = false) → lastT m e0 key = (-1, 0)) := fun h => by unfold lastT; rw [lastN_no h]
  have HAt : Hid (∀ k, k < e0 → wB m key k = true → (∀ j, k < j → j < e0 → wB m key j = false) → lastT m e0 key = ((stZ m k).p, (numS m k : Int))) := fun k h1 h2 h3 => by unfold lastT; rw [lastN_at h2 h1 h3]
  generalize lastT m e0 key = lt at HNone HAt ⊢
  clear hl hB hN
  unfold two
  go_enter Tryd.func58, Tryd.ntmps58
  go_wp2
  go_loopw [7] (fun i wr => ∃ k : Nat, k ≤ e0 ∧ i = .int .i64 ((k : Int) - 1) ∧ (∀ j, k ≤ j → j < e0 → wB m key j = false) ∧ Below w.heap.size w wr) (fun i _ => (intOf i + 1).toNat)
  case atStart => exact ⟨e0, Nat.le_refl _, rfl, fun j h1 h2 => absurd h1 (by omega), Below.refl _ _⟩
  case round =>
    obtain ⟨k, hk, rfl, hno, hb⟩ := hrel
    have HNo := hideIt hno
    have HB := hideIt hb
    clear hno hb
    cases k with
    | zero =>
      obtain rfl := HNone.out fun j hj => HNo.out j (Nat.zero_le _) hj
      have HT := hideIt (twoAt_new wr w.heap.size HB.out.size (-1) 0)
      go_wp2
      go_ret
      exact ⟨_, rfl, HT.out, belA HB.out _⟩
    | succ k =>
      have hkl : k < m.length := by omega
      obtain ⟨b, off, rfl, hlt, hst⟩ : ∃ b off, a = some ⟨b, off, none⟩ ∧ b < w.heap.size ∧ StpsAt w b off m := by
        rcases HL.out with h | h
        · subst h; simp at hkl
        · exact h
      have HX2 : Hid (∀ W, Below w.heap.size w W → StpAt W b (off + k * 3) m[k]) := fun W hW => (hst k hkl).below hlt hW
      obtain ⟨c0, c1, c2⟩ := HX2.out wr HB.out
      have bx := HX0.out wr HB.out
      have hki : ((k + 1 : Nat) : Int) - 1 = (k : Int) := by omega
      have hkl' : (k : Int) < m.length := by omega
      rw [hki]
      have HNu := hideIt (fun W hW => HNm.out k W hkl hW)
      have HWb : Hid (wB m key k = ((stZ m k).k == 2 && (stZ m k).m == key)) := rfl
      have HAk := hideIt (HAt.out k (by omega))
      rw [stZ_at hkl] at HWb HAk
      generalize m[k] = x at HX2 c0 c1 c2 HWb HAk
      have HNx : Hid (wB m key k = false → ∀ j, k ≤ j → j < e0 → wB m key j = false) := fun h j h1 h2 => by
        by_cases e : j = k
        · subst e; exact h
        · exact HNo.out j (by omega) h2
      have HYx : Hid (wB m key k = true → lt = (x.p, (numS m k : Int))) := fun h => HAk.out h fun j h1 h2 => HNo.out j (by omega) h2
      clear HAk hst HNo HNone HAt
      generalize wB m key k = wb at HWb HNx HYx
      generalize numS m k = nu at HNu HYx
      by_cases g1 : x.k = 2
      · have g1' : (x.k == 2) = true := by simp [g1]
        by_cases g2 : x.m = key
        · have g2' : (x.m == key) = true := by simp [g2]
          obtain rfl := HYx.out (by rw [HWb.out, g1', g2']; rfl)
          rw [g1] at c1
          clear HWb HNx HYx g1 g2
          go_upto_region 5 with fail
          clear c0 c1 c2 bx
          refine wp_region_held_drew (S := (fun w' => Below w.heap.size w w')) (by kernel_rfl) (HB.out.drew) (fun hHeld => ?_)
          refine wpAnyH_take (i := 0) (v := ?_) rfl (by kernel_rfl) (by kernel_rfl) (by kernel_rfl) (fun _ _ _ h => h) (Or.inl ⟨by rfl, ?_⟩) (by assumption) ?_
          rotate_left 1
          · intro wz sb
            have y0 := HX0.out wz sb
            have y1 := HX1.out wz sb
            obtain ⟨y2, y3, y4⟩ := HX2.out wz sb
            go_simp
            all_goals with_reducible rfl
          simp only [Act.put, List.setIfInBounds_toArray, List.set_cons_zero, List.set_cons_succ, List.getElem_toArray, List.getElem_cons_zero]
          refine wpAnyH_take (i := 1) (v := ?_) rfl (by kernel_rfl) (by kernel_rfl) (by kernel_rfl) (fun _ _ _ h => h) (Or.inl ⟨by rfl, ?_⟩) (by assumption) ?_
          rotate_left 1
          · intro wz sb
            have y0 := HX0.out wz sb
            have y1 := HX1.out wz sb
            obtain ⟨y2, y3, y4⟩ := HX2.out wz sb
            go_simp
            all_goals with_reducible rfl
          simp only [Act.put, List.setIfInBounds_toArray, List.set_cons_zero, List.set_cons_succ, List.getElem_toArray, List.getElem_cons_zero, List.getElem_cons_succ]
          refine wpAnyH_take (i := 2) (v := ?_) rfl (by kernel_rfl) (by kernel_rfl) (by kernel_rfl) (fun _ _ _ h => h) (Or.inl ⟨by rfl, ?_⟩) (by assumption) ?_
          rotate_left 1
          · intro wz sb
            have y0 := HX0.out wz sb
            have y1 := HX1.out wz sb
            obtain ⟨y2, y3, y4⟩ := HX2.out wz sb
            go_simp
            all_goals with_reducible rfl
          simp only [Act.put, List.setIfInBounds_toArray, List.set_cons_zero, List.set_cons_succ, List.getElem_toArray, List.getElem_cons_zero, List.getElem_cons_succ]
          refine wpAnyH_take (i := 3) (v := ?_) rfl (by kernel_rfl) (by kernel_rfl) (by kernel_rfl) (fun _ _ _ h => h) (Or.inl ⟨by rfl, ?_⟩) (by assumption) ?_
          rotate_left 1
          · intro wz sb
            have y0 := HX0.out wz sb
            have y1 := HX1.out wz sb
            obtain ⟨y2, y3, y4⟩ := HX2.out wz sb
            go_simp
            all_goals with_reducible rfl
          simp only [Act.put, List.setIfInBounds_toArray, List.set_cons_zero, List.set_cons_succ, List.getElem_toArray, List.getElem_cons_zero, List.getElem_cons_succ]
          refine wpAnyH_take (i := 4) (v := ?_) rfl (by kernel_rfl) (by kernel_rfl) (by kernel_rfl) (fun _ _ _ h => h) (Or.inl ⟨by rfl, ?_⟩) (by assumption) ?_
          rotate_left 1
          · intro wz sb
            have y0 := HX0.out wz sb
            have y1 := HX1.out wz sb
            obtain ⟨y2, y3, y4⟩ := HX2.out wz sb
            go_simp
            all_goals with_reducible rfl
          simp only [Act.put, List.setIfInBounds_toArray, List.set_cons_zero, List.set_cons_succ, List.getElem_toArray, List.getElem_cons_zero, List.getElem_cons_succ]
          refine wpAnyH_take (i := 5) (v := ?_) rfl (by kernel_rfl) (by kernel_rfl) (by kernel_rfl) (fun _ _ _ h => h) (Or.inl ⟨by rfl, ?_⟩) (by assumption) ?_
          rotate_left 1
          · intro wz sb
            have y0 := HX0.out wz sb
            have y1 := HX1.out wz sb
            obtain ⟨y2, y3, y4⟩ := HX2.out wz sb
            go_simp
            all_goals with_reducible rfl
          simp only [Act.put, List.setIfInBounds_toArray, List.set_cons_zero, List.set_cons_succ, List.getElem_toArray, List.getElem_cons_zero, List.getElem_cons_succ]
          refine wpAnyH_take (i := 6) (v := ?_) rfl (by kernel_rfl) (by kernel_rfl) (by kernel_rfl) (fun _ _ _ h => h) (Or.inl ⟨by rfl, ?_⟩) (by assumption) ?_
          rotate_left 1
          · intro wz sb
            have y0 := HX0.out wz sb
            have y1 := HX1.out wz sb
            obtain ⟨y2, y3, y4⟩ := HX2.out wz sb
            go_simp
            all_goals with_reducible rfl
          simp only [Act.put, List.setIfInBounds_toArray, List.set_cons_zero, List.set_cons_succ, List.getElem_toArray, List.getElem_cons_zero, List.getElem_cons_succ]
          refine wpAnyH_ready (rs := [7]) (by kernel_rfl) (by simp) (AllReadyH.cons rfl (fun K hK => ?_) AllReadyH.nil)
          go_simp
          refine (HNu.out _ hHeld).mono ?_
          rintro e w2 ⟨rfl, hb2⟩
          refine hK.out _ _ ?_ (fun hHeld => ?_)
          · exact belJ hHeld hb2
          clear hK K hb2
          refine wpAnyH_ready (rs := [8]) (by kernel_rfl) (by simp) (AllReadyH.cons rfl (fun K hK => ?_) AllReadyH.nil)
          go_simp
          refine hK.out _ _ ?_ (fun hHeld => ?_)
          · exact belA hHeld _
          clear hK K
          refine wpAnyH_ready (rs := [9]) (by kernel_rfl) (by simp) (AllReadyH.cons rfl (fun K hK => ?_) AllReadyH.nil)
          go_simp
          refine hK.out _ _ ?_ (fun hHeld => ?_)
          · exact hHeld
          clear hK K
          refine wpAnyH_done (by kernel_rfl) ?_ _
          go_wp2
          go_ret
          refine ⟨_, rfl, twoAt_new _ w.heap.size ?_ _ _, by assumption⟩
          exact (show Below w.heap.size w w2 by assumption).size
        · have g2' : (x.m == key) = false := by simp [g2]
          have R := hideIt (HNx.out (by rw [HWb.out, g2', Bool.and_false]))
          rw [g1] at c1
          clear HWb HNx HYx g1 g2
          go_wp2
          go_roundw
          case rel => exact ⟨k, by omega, rfl, R.out, HB.out⟩
          case measure => simp [intOf]
      · have g1' : (x.k == 2) = false := by simp [g1]
        have R := hideIt (HNx.out (by rw [HWb.out, g1', Bool.false_and]))
        clear HWb HNx HYx g1
        go_wp2
        go_roundw
        case rel => exact ⟨k, by omega, rfl, R.out, HB.out⟩
        case measure => simp [intOf]
end Go.Proofs.YtibdchahallbjabDoor

namespace Go.Proofs.YtibdchahallbjabDoor
open Go.RowKit

theorem TwoAt.base {w : World} {base base' g : Nat} {v : Int × Int} (h : TwoAt w base g v) (hb : base' ≤ base) : TwoAt w base' g v := ⟨Nat.le_trans hb h.lo, h.c0, h.c1⟩
/-- A map that tells of each key two numbers. -/
structure SnAt (w : World) (base M n : Nat) (F : Int → Int → Int → Option (Int × Int)) : Prop where
  tells : ∃ fb, MapT w M n fb ∧ (∀ a b c, (fb a b c).isSome = (F a b c).isSome) ∧ ∀ a b c g v, fb a b c = some g → F a b c = some v → TwoAt w base g v
theorem SnAt.below {w w' : World} {base M n B : Nat} {F : Int → Int → Int → Option (Int × Int)} (h : SnAt w base M n F) (hb : Below B w w') (hB : w.heap.size ≤ B) : SnAt w' base M n F := by
  obtain ⟨fb, h1, h2, h3⟩ := h.tells
  exact ⟨fb, h1.below hb (Nat.lt_of_lt_of_le h1.lt hB), h2, fun a b c g v hg hv => (h3 a b c g v hg hv).below hb (Nat.lt_of_lt_of_le (h3 a b c g v hg hv).lt hB)⟩
theorem SnAt.lt {w : World} {base M n : Nat} {F : Int → Int → Int → Option (Int × Int)} (h : SnAt w base M n F) : M < w.heap.size := by
  obtain ⟨fb, h1, _⟩ := h.tells
  exact h1.lt
theorem SnAt.low {w : World} {base base' M n : Nat} {F : Int → Int → Int → Option (Int × Int)} (h : SnAt w base M n F) (hb : base' ≤ base) : SnAt w base' M n F := by
  obtain ⟨fb, h1, h2, h3⟩ := h.tells
  exact ⟨fb, h1, h2, fun a b c g v hg hv => (h3 a b c g v hg hv).base hb⟩
theorem SnAt.mono {w : World} {base M n n' : Nat} {F : Int → Int → Int → Option (Int × Int)} (h : SnAt w base M n F) (hn : n ≤ n') : SnAt w base M n' F := by
  obtain ⟨fb, h1, h2, h3⟩ := h.tells
  exact ⟨fb, h1.mono hn, h2, h3⟩
theorem SnAt.same {w : World} {base M n : Nat} {F G : Int → Int → Int → Option (Int × Int)} (h : SnAt w base M n F) (e : ∀ a b c, F a b c = G a b c) : SnAt w base M n G := by
  have : F = G := by funext a b c; exact e a b c
  rw [← this]; exact h
theorem SnAt.put {w : World} {base M n : Nat} {F G : Int → Int → Int → Option (Int × Int)} (h : SnAt w base M n F) (hM : M < base) (hn : n < 1000) {a b c : Int} (hk : Wf3 a b c) {g : Nat} {v : Int × Int} (hg : TwoAt w base g v)
    (hG : ∀ p q r, G p q r = if p = a ∧ q = b ∧ r = c then some v else F p q r) :
    ∃ w', (Instr.mapUpdate 73 (.map (some M)) (tripV a b c) (two g)).run Tryd.prog w = .ok () w' ∧ SnAt w' base M (n + 1) G ∧ w.grownBy w' (some M) := by
  obtain ⟨fb, h1, h2, h3⟩ := h.tells
  obtain ⟨w', hrun, hm, hgr⟩ := h1.store hn hk g
  have keep : ∀ {g' v'}, TwoAt w base g' v' → TwoAt w' base g' v' := fun {g' v'} h' => by
    have hne : g' ≠ M := by have := h'.lo; omega
    have hb := hgr.block g' h'.lt (by simpa using hne)
    exact ⟨h'.lo, (World.cell?_of_block (a := ⟨g', 0, none⟩) hb).trans h'.c0, (World.cell?_of_block (a := ⟨g', 1, none⟩) hb).trans h'.c1⟩
  refine ⟨w', hrun, ⟨_, hm, fun p q r => ?_, fun p q r g' v' hg' hv' => ?_⟩, hgr⟩
  · unfold putT
    rw [hG p q r]
    by_cases e : p = a ∧ q = b ∧ r = c
    · rw [if_pos e, if_pos e]; rfl
    · rw [if_neg e, if_neg e]; exact h2 p q r
  · unfold putT at hg'
    rw [hG p q r] at hv'
    by_cases e : p = a ∧ q = b ∧ r = c
    · rw [if_pos e] at hg' hv'
      obtain rfl := Option.some.inj hg'
      obtain rfl := Option.some.inj hv'
      exact keep hg
    · rw [if_neg e] at hg' hv'
      exact keep (h3 p q r g' v' hg' hv')
theorem snAt_made (w : World) (base : Nat) : SnAt (w.alloc (.map #[] 0)) base w.heap.size 0 (fun _ _ _ => none) :=
  ⟨_, mapT_made w, fun _ _ _ => rfl, fun _ _ _ _ _ h => (by cases h)⟩
/-- What is so behind k steps. -/
structure SxAt (w : World) (m : List Stp) (a : Option Addr) (cap n : Nat) (F : Int → Int → Int → Option (Int × Int)) (wr : World) : Prop where
  sn : SnAt wr (w.heap.size + 3) (w.heap.size + 1) n F
  bx : wr.cell? ⟨w.heap.size, 0, none⟩ = some (.slice a m.length cap)
  nb : wr.cell? ⟨w.heap.size + 2, 0, none⟩ = some (.func (Fn.func 57) #[] #[.pointer (some ⟨w.heap.size, 0, none⟩)])
  bel : Below w.heap.size w wr
theorem SxAt.below {w : World} {m : List Stp} {a : Option Addr} {cap n : Nat} {F : Int → Int → Int → Option (Int × Int)} {wr w' : World} (h : SxAt w m a cap n F wr) (hb : Below wr.heap.size wr w') : SxAt w m a cap n F w' :=
  ⟨h.sn.below hb (Nat.le_refl _), (hb.cell (p := ⟨w.heap.size, 0, none⟩) (World.block_lt_of_cell? wr _ h.bx)).trans h.bx, (hb.cell (p := ⟨w.heap.size + 2, 0, none⟩) (World.block_lt_of_cell? wr _ h.nb)).trans h.nb, belJ h.bel hb⟩
theorem SxAt.put {w : World} {m : List Stp} {a : Option Addr} {cap n : Nat} {F G : Int → Int → Int → Option (Int × Int)} {wr : World} (h : SxAt w m a cap n F wr) (hn : n < 1000) {p q r : Int} (hk : Wf3 p q r) {g : Nat} {v : Int × Int} (hg : TwoAt wr (w.heap.size + 3) g v)
    (hG : ∀ x y z, G x y z = if x = p ∧ y = q ∧ z = r then some v else F x y z) :
    ∃ w', (Instr.mapUpdate 73 (.map (some (w.heap.size + 1))) (tripV p q r) (two g)).run Tryd.prog wr = .ok () w' ∧ SxAt w m a cap (n + 1) G w' := by
  obtain ⟨w', hrun, hs, hgr⟩ := h.sn.put (by omega) hn hk hg hG
  refine ⟨w', hrun, hs, ?_, ?_, h.bel.grown hgr h.bel.size (fun j hj => by obtain rfl := Option.some.inj hj; omega)⟩
  · exact (World.cell?_of_block (a := ⟨w.heap.size, 0, none⟩) (hgr.block w.heap.size (World.block_lt_of_cell? wr _ h.bx) (by simp))).trans h.bx
  · exact (World.cell?_of_block (a := ⟨w.heap.size + 2, 0, none⟩) (hgr.block (w.heap.size + 2) (World.block_lt_of_cell? wr _ h.nb) (by simp))).trans h.nb

set_option maxRecDepth 100000 in
set_option maxHeartbeats 8000000 in
theorem seen_any (m : List Stp) (hm : ∀ n, n < m.length → (0 ≤ (stZ m n).p ∧ (stZ m n).p ≤ 7) ∧ (0 ≤ (stZ m n).m ∧ (stZ m n).m ≤ 7)) (a : Option Addr) (cap : Nat) (w : World) (hn : m.length ≤ 500) (hl : StpsQ w a m) :
    Calls Tryd.prog 33 #[.slice a m.length cap] w fun e w' => ∃ M, e = .returned (.map (some M)) ∧ w.heap.size ≤ M ∧ SnAt w' w.heap.size M (m.length + 8) (sn2 m 8) ∧ Below w.heap.size w w' := by
  have HL := hideIt hl
  have HMr := hideIt hm
  have HA0 : Hid (SxAt w m a cap 0 (sn1 m 0) (((w.alloc (.cells #[.slice a m.length cap] 23)).alloc (.map #[] 0)).alloc (.cells #[.func (Fn.func 57) #[] #[.pointer (some ⟨w.heap.size, 0, none⟩)]] 86))) := by
    obtain ⟨W1, h1⟩ : ∃ W1, W1 = w.alloc (.cells #[.slice a m.length cap] 23) := ⟨_, rfl⟩
    obtain ⟨W2, h2⟩ : ∃ W2, W2 = W1.alloc (.map #[] 0) := ⟨_, rfl⟩
    obtain ⟨O, hO⟩ : ∃ O : Obj, O = .cells #[.func (Fn.func 57) #[] #[.pointer (some ⟨w.heap.size, 0, none⟩)]] 86 := ⟨_, rfl⟩
    have s1 : W1.heap.size = w.heap.size + 1 := by rw [h1]; simp
    have s2 : W2.heap.size = w.heap.size + 2 := by rw [h2, World.size_alloc, s1]
    rw [← h1, ← h2, ← hO]
    have k1 : (W2.alloc O).heap[w.heap.size]? = some (.cells #[.slice a m.length cap] 23 (0, 0)) := by
      rw [Below.heap_alloc W2 O w.heap.size (by omega), h2, Below.heap_alloc W1 _ w.heap.size (by omega), h1]; exact heap_alloc_new w _
    have k3 := heap_alloc_new W2 O
    rw [s2] at k3
    have k2 : SnAt W2 (w.heap.size + 3) (w.heap.size + 1) 0 (sn1 m 0) := by
      have := snAt_made W1 (w.heap.size + 3)
      rw [s1, ← h2] at this
      exact this.same fun _ _ _ => rfl
    have hb : Below w.heap.size w (W2.alloc O) := by
      have := belA (belA (belA (Below.refl w.heap.size w) (.cells #[.slice a m.length cap] 23)) (.map #[] 0)) O
      rw [← h1, ← h2] at this
      exact this
    subst hO
    exact ⟨k2.below (belA (Below.refl _ _) _) (Nat.le_refl _), cell_of_row _ _ _ _ 23 _ k1, cell_of_row _ _ _ _ 86 _ k3, hb⟩
  clear hl hm
  have hmm := @run_makeMap Tryd.prog
  have HNu0 : Hid (∀ k W, k < m.length → ∀ n F, SxAt w m a cap n F W → Calls Tryd.prog 57 #[.int .i64 (k : Nat), .pointer (some ⟨w.heap.size, 0, none⟩)] W fun e w' => e = .returned (.int .i64 (numS m k : Nat)) ∧ Below W.heap.size W w') := fun k W hk n F hs => number_any m k hk a cap _ W (by omega) (HL.out.below hs.bel) hs.bx
  have HLa0 : Hid (∀ e0 key W, e0 ≤ m.length → ∀ n F, SxAt w m a cap n F W → Calls Tryd.prog 58 #[.int .i64 (e0 : Nat), .int .i64 key, .pointer (some ⟨w.heap.size, 0, none⟩), .pointer (some ⟨w.heap.size + 2, 0, none⟩)] W fun e w' => ∃ g, e = .returned (two g) ∧ TwoAt w' W.heap.size g (lastT m e0 key) ∧ Below W.heap.size W w') := fun e0 key W he n F hs => last_any m e0 he key a cap _ _ W (by omega) (HL.out.below hs.bel) hs.bx hs.nb
  go_enter Tryd.func33, Tryd.ntmps33
  have x0 := HA0.out.bx
  go_wp2
  clear hmm
  generalize ((w.alloc _).alloc _).alloc _ = W at HA0 x0 ⊢
  clear x0
  go_loopw [14] (fun i wr => ∃ k : Nat, k ≤ m.length ∧ i = .int .i64 k ∧ SxAt w m a cap k (sn1 m k) wr) (fun i _ => m.length - (intOf i).toNat)
  case atStart => exact ⟨0, Nat.zero_le _, rfl, HA0.out⟩
  case round =>
    clear HA0
    obtain ⟨k, hk, rfl, hat⟩ := hrel
    have HAt := hideIt hat
    clear hat
    by_cases hkl : k < m.length
    · obtain ⟨b, off, rfl, hlt, hst⟩ : ∃ b off, a = some ⟨b, off, none⟩ ∧ b < w.heap.size ∧ StpsAt w b off m := by
        rcases HL.out with h | h
        · subst h; simp at hkl
        · exact h
      obtain ⟨c0, c1, c2⟩ := (hst k hkl).below hlt HAt.out.bel
      have hkl' : (k : Int) < m.length := by omega
      have hr := HMr.out k hkl
      have HSn : Hid (∀ p q r, sn1 m (k + 1) p q r = if (stZ m k).k = 1 ∧ p = (stZ m k).p ∧ q = (numS m k : Int) ∧ r = (stZ m k).m then some (lastT m k (stZ m k).m) else sn1 m k p q r) := fun p q r => rfl
      have hnu : numS m k ≤ 500 := by
        unfold numS
        exact Nat.le_trans List.countP_le_length (by rw [List.length_take]; omega)
      rw [stZ_at hkl] at hr HSn
      generalize m[k] = x at c0 c1 c2 hr HSn
      have HA1 := hideIt (HAt.out.below (belA (Below.refl _ _) (.cells #[.int .i64 x.p, .int .i64 x.k, .int .i64 x.m] 62)))
      have d0 : (wr.alloc (.cells #[.int .i64 x.p, .int .i64 x.k, .int .i64 x.m] 62)).cell? ⟨wr.heap.size, 0, none⟩ = some (.int .i64 x.p) := by simp
      have d1 : (wr.alloc (.cells #[.int .i64 x.p, .int .i64 x.k, .int .i64 x.m] 62)).cell? ⟨wr.heap.size, 1, none⟩ = some (.int .i64 x.k) := by simp
      have d2 : (wr.alloc (.cells #[.int .i64 x.p, .int .i64 x.k, .int .i64 x.m] 62)).cell? ⟨wr.heap.size, 2, none⟩ = some (.int .i64 x.m) := by simp
      clear hst
      go_upto_region 7 with fail
      generalize wr.alloc _ = WA at HA1 d0 d1 d2 ⊢
      have hZl := World.block_lt_of_cell? WA _ d0
      generalize wr.heap.size = Z at d0 d1 d2 hZl ⊢
      clear c0 c1 c2 HAt
      by_cases h1 : x.k = 1
      · rw [h1] at d1
        have HSn2 : Hid (∀ p q r, sn1 m (k + 1) p q r = if p = x.p ∧ q = (numS m k : Int) ∧ r = x.m then some (lastT m k x.m) else sn1 m k p q r) := fun p q r => by
          rw [HSn.out p q r]
          by_cases e : p = x.p ∧ q = (numS m k : Int) ∧ r = x.m
          · rw [if_pos ⟨h1, e⟩, if_pos e]
          · rw [if_neg fun h => e h.2, if_neg e]
        have hwf : Wf3 x.p (numS m k : Int) x.m := ⟨wf_small (by omega) (by omega), wf_small (by omega) (by omega), wf_small (by omega) (by omega)⟩
        have hWs : w.heap.size + 3 ≤ WA.heap.size := by
          have : w.heap.size + 2 < WA.heap.size := World.block_lt_of_cell? WA _ HA1.out.nb
          omega
        have HPut : Hid (∀ w3 g3, Below WA.heap.size WA w3 → TwoAt w3 WA.heap.size g3 (lastT m k x.m) → ∃ w4, (Instr.mapUpdate 73 (.map (some (w.heap.size + 1))) (tripV x.p (numS m k : Int) x.m) (two g3)).run Tryd.prog w3 = .ok () w4 ∧ SxAt w m (some ⟨b, off, none⟩) cap (k + 1) (sn1 m (k + 1)) w4 ∧ Below w.heap.size w w4 ∧ True) := fun w3 g3 hb3 ht3 => by
          obtain ⟨w4, h5, h6⟩ := (HA1.out.below hb3).put (by omega) hwf (ht3.base hWs) HSn2.out
          exact ⟨w4, h5, h6, h6.bel, trivial⟩
        have HX0 : Hid (∀ W, Below WA.heap.size WA W → W.cell? ⟨Z, 0, none⟩ = some (.int .i64 x.p) ∧ W.cell? ⟨Z, 1, none⟩ = some (.int .i64 1) ∧ W.cell? ⟨Z, 2, none⟩ = some (.int .i64 x.m)) := fun W hW => ⟨(hW.cell (p := ⟨Z, 0, none⟩) hZl).trans d0, (hW.cell (p := ⟨Z, 1, none⟩) hZl).trans d1, (hW.cell (p := ⟨Z, 2, none⟩) hZl).trans d2⟩
        have HX1 : Hid (∀ W, Below WA.heap.size WA W → W.cell? ⟨w.heap.size + 2, 0, none⟩ = some (.func (Fn.func 57) #[] #[.pointer (some ⟨w.heap.size, 0, none⟩)])) := fun W hW => (HA1.out.below hW).nb
        have HNu : Hid (∀ W, Below WA.heap.size WA W → Calls Tryd.prog 57 #[.int .i64 (k : Nat), .pointer (some ⟨w.heap.size, 0, none⟩)] W fun e w' => e = .returned (.int .i64 (numS m k : Nat)) ∧ Below W.heap.size W w') := fun W hW => HNu0.out k W hkl _ _ (HA1.out.below hW)
        have HLa : Hid (∀ W, Below WA.heap.size WA W → Calls Tryd.prog 58 #[.int .i64 (k : Nat), .int .i64 x.m, .pointer (some ⟨w.heap.size, 0, none⟩), .pointer (some ⟨w.heap.size + 2, 0, none⟩)] W fun e w' => ∃ g, e = .returned (two g) ∧ TwoAt w' W.heap.size g (lastT m k x.m) ∧ Below W.heap.size W w') := fun W hW => HLa0.out k x.m W (by omega) _ _ (HA1.out.below hW)
        have HBA := hideIt HA1.out.bel
        generalize numS m k = nu at HPut HNu
        generalize lastT m k x.m = lt at HPut HLa
        clear HSn HSn2 hwf h1 hnu
        · go_upto_region 8 with fail
          clear d0 d1 d2
          refine wp_region_L (B := [14]) (S := (fun w' => Below w.heap.size w w')) (T := (fun w' => Below WA.heap.size WA w')) (by kernel_rfl) ⟨HBA.out.drew, (Below.refl _ _).drew⟩ (fun hHeld => ?_)
          refine wpAnyL_takeS (i := 0) (v := ?_) rfl (by kernel_rfl) (by kernel_rfl) (by kernel_rfl) (by kernel_rfl) (fun _ _ _ h => h) (Or.inl ⟨by rfl, ?_⟩) (by assumption) ?_
          rotate_left 1
          · intro wz sb
            go_simp
            all_goals with_reducible rfl
          simp only [Act.put, List.setIfInBounds_toArray, List.set_cons_zero, List.set_cons_succ, List.getElem_toArray, List.getElem_cons_zero]
          refine wpAnyL_takeS (i := 1) (v := ?_) rfl (by kernel_rfl) (by kernel_rfl) (by kernel_rfl) (by kernel_rfl) (fun _ _ _ h => h) (Or.inl ⟨by rfl, ?_⟩) (by assumption) ?_
          rotate_left 1
          · intro wz sb
            go_simp
            all_goals with_reducible rfl
          simp only [Act.put, List.setIfInBounds_toArray, List.set_cons_zero, List.set_cons_succ, List.getElem_toArray, List.getElem_cons_zero, List.getElem_cons_succ]
          refine wpAnyL_take [8, 14] (i := 2) (v := ?_) rfl (by kernel_rfl) (by kernel_rfl) (by kernel_rfl) (by kernel_rfl) (fun _ _ _ h => h) (Or.inl ⟨by rfl, ?_⟩) (by assumption) ?_
          rotate_left 1
          · intro wz ⟨sb, tb⟩
            obtain ⟨y0, y1, y2⟩ := HX0.out wz tb
            have y3 := HX1.out wz tb
            go_simp
            all_goals with_reducible rfl
          simp only [Act.put, List.setIfInBounds_toArray, List.set_cons_zero, List.set_cons_succ, List.getElem_toArray, List.getElem_cons_zero, List.getElem_cons_succ]
          refine wpAnyL_take [5, 8, 14] (i := 3) (v := ?_) rfl (by kernel_rfl) (by kernel_rfl) (by kernel_rfl) (by kernel_rfl) (fun _ _ _ h => h) (Or.inl ⟨by rfl, ?_⟩) (by assumption) ?_
          rotate_left 1
          · intro wz ⟨sb, tb⟩
            obtain ⟨y0, y1, y2⟩ := HX0.out wz tb
            have y3 := HX1.out wz tb
            go_simp
            all_goals with_reducible rfl
          simp only [Act.put, List.setIfInBounds_toArray, List.set_cons_zero, List.set_cons_succ, List.getElem_toArray, List.getElem_cons_zero, List.getElem_cons_succ]
          refine wpAnyL_takeS (i := 4) (v := ?_) rfl (by kernel_rfl) (by kernel_rfl) (by kernel_rfl) (by kernel_rfl) (fun _ _ _ h => h) (Or.inl ⟨by rfl, ?_⟩) (by assumption) ?_
          rotate_left 1
          · intro wz sb
            go_simp
            all_goals with_reducible rfl
          simp only [Act.put, List.setIfInBounds_toArray, List.set_cons_zero, List.set_cons_succ, List.getElem_toArray, List.getElem_cons_zero, List.getElem_cons_succ]
          refine wpAnyL_takeS (i := 6) (v := ?_) rfl (by kernel_rfl) (by kernel_rfl) (by kernel_rfl) (by kernel_rfl) (fun _ _ _ h => h) (Or.inl ⟨by rfl, ?_⟩) (by assumption) ?_
          rotate_left 1
          · intro wz sb
            go_simp
            all_goals with_reducible rfl
          simp only [Act.put, List.setIfInBounds_toArray, List.set_cons_zero, List.set_cons_succ, List.getElem_toArray, List.getElem_cons_zero, List.getElem_cons_succ]
          refine wpAnyL_take [8, 14] (i := 7) (v := ?_) rfl (by kernel_rfl) (by kernel_rfl) (by kernel_rfl) (by kernel_rfl) (fun _ _ _ h => h) (Or.inl ⟨by rfl, ?_⟩) (by assumption) ?_
          rotate_left 1
          · intro wz ⟨sb, tb⟩
            obtain ⟨y0, y1, y2⟩ := HX0.out wz tb
            have y3 := HX1.out wz tb
            go_simp
            all_goals with_reducible rfl
          simp only [Act.put, List.setIfInBounds_toArray, List.set_cons_zero, List.set_cons_succ, List.getElem_toArray, List.getElem_cons_zero, List.getElem_cons_succ]
          refine wpAnyL_takeS (i := 9) (v := ?_) rfl (by kernel_rfl) (by kernel_rfl) (by kernel_rfl) (by kernel_rfl) (fun _ _ _ h => h) (Or.inl ⟨by rfl, ?_⟩) (by assumption) ?_
          rotate_left 1
          · intro wz sb
            go_simp
            all_goals with_reducible rfl
          simp only [Act.put, List.setIfInBounds_toArray, List.set_cons_zero, List.set_cons_succ, List.getElem_toArray, List.getElem_cons_zero, List.getElem_cons_succ]
          refine wpAnyL_takeS (i := 10) (v := ?_) rfl (by kernel_rfl) (by kernel_rfl) (by kernel_rfl) (by kernel_rfl) (fun _ _ _ h => h) (Or.inl ⟨by rfl, ?_⟩) (by assumption) ?_
          rotate_left 1
          · intro wz sb
            go_simp
            all_goals with_reducible rfl
          simp only [Act.put, List.setIfInBounds_toArray, List.set_cons_zero, List.set_cons_succ, List.getElem_toArray, List.getElem_cons_zero, List.getElem_cons_succ]
          refine wpAnyL_takeS (i := 11) (v := ?_) rfl (by kernel_rfl) (by kernel_rfl) (by kernel_rfl) (by kernel_rfl) (fun _ _ _ h => h) (Or.inl ⟨by rfl, ?_⟩) (by assumption) ?_
          rotate_left 1
          · intro wz sb
            go_simp
            all_goals with_reducible rfl
          simp only [Act.put, List.setIfInBounds_toArray, List.set_cons_zero, List.set_cons_succ, List.getElem_toArray, List.getElem_cons_zero, List.getElem_cons_succ]
          refine wpAnyL_take [13, 14] (i := 12) (v := ?_) rfl (by kernel_rfl) (by kernel_rfl) (by kernel_rfl) (by kernel_rfl) (fun _ _ _ h => h) (Or.inl ⟨by rfl, ?_⟩) (by assumption) ?_
          rotate_left 1
          · intro wz ⟨sb, tb⟩
            obtain ⟨y0, y1, y2⟩ := HX0.out wz tb
            have y3 := HX1.out wz tb
            go_simp
            all_goals with_reducible rfl
          simp only [Act.put, List.setIfInBounds_toArray, List.set_cons_zero, List.set_cons_succ, List.getElem_toArray, List.getElem_cons_zero, List.getElem_cons_succ]
          refine wpAnyL_ready (rs := [5]) (by kernel_rfl) (by simp) (AllReadyL.cons rfl (fun K hK => ?_) AllReadyL.nil)
          go_simp
          refine (HNu.out _ hHeld.2).mono ?_
          rintro e w2 ⟨rfl, hb2⟩
          refine hK.out _ _ ?_ (fun hHeld => ?_)
          · exact ⟨belJ hHeld.1 hb2, belJ hHeld.2 hb2⟩
          clear hK K hb2
          refine wpAnyL_takeS (i := 8) (v := ?_) rfl (by kernel_rfl) (by kernel_rfl) (by kernel_rfl) (by kernel_rfl) (fun _ _ _ h => h) (Or.inl ⟨by rfl, ?_⟩) (by assumption) ?_
          rotate_left 1
          · intro wz sb
            go_simp
            all_goals with_reducible rfl
          simp only [Act.put, List.setIfInBounds_toArray, List.set_cons_zero, List.set_cons_succ, List.getElem_toArray, List.getElem_cons_zero, List.getElem_cons_succ]
          refine wpAnyL_ready (rs := [13]) (by kernel_rfl) (by simp) (AllReadyL.cons rfl (fun K hK => ?_) AllReadyL.nil)
          go_simp
          refine (HLa.out _ hHeld.2).mono ?_
          rintro e w3 ⟨g3, rfl, ht3, hb3⟩
          refine hK.out _ _ ?_ (fun hHeld => ?_)
          · exact ⟨belJ hHeld.1 hb3, belJ hHeld.2 hb3⟩
          have HFin := hideIt (HPut.out w3 g3 hHeld.2 (ht3.base (show Below WA.heap.size WA w2 from (by assumption : _ ∧ Below WA.heap.size WA w2).2).size))
          obtain ⟨w4, hr4, hs4, hb4, hx4⟩ := HFin.out
          unfold two tripV at hr4
          unfold two
          clear hK K hb3 ht3 HFin
          refine wpAnyL_ready (rs := [14]) (by kernel_rfl) (by simp) (AllReadyL.last rfl (by kernel_rfl) (fun K hK => ?_) AllReadyL.nil)
          go_simp
          refine hK.out _ _ ?_ (fun hHeld => ?_)
          · exact hb4
          clear hK K
          refine wpAnyL_done (by kernel_rfl) ?_ _
          go_wp2
          go_roundw
          case rel => exact ⟨k + 1, by omega, by go_num, hs4⟩
          case measure => simp [intOf]; omega
      · have h1' : (x.k == 1) = false := by simp [h1]
        have R : Hid (SxAt w m (some ⟨b, off, none⟩) cap (k + 1) (sn1 m (k + 1)) WA) := ⟨(HA1.out.sn.mono (by omega)).same fun p q r => by rw [HSn.out, if_neg fun h => h1 h.1], HA1.out.bx, HA1.out.nb, HA1.out.bel⟩
        clear HSn
        go_wp2
        go_roundw
        case rel => exact ⟨k + 1, by omega, by go_num, R.out⟩
        case measure => simp [intOf]; omega
    · obtain rfl : k = m.length := by omega
      go_wp2
      go_loopw [37] (fun i wr => ∃ j : Nat, j ≤ 8 ∧ i = .int .i64 j ∧ SxAt w m a cap (m.length + j) (sn2 m j) wr) (fun i _ => 8 - (intOf i).toNat)
      case atStart => exact ⟨0, by omega, rfl, HAt.out⟩
      case round =>
        clear HAt
        obtain ⟨j, hj, rfl, hat⟩ := hrel
        have HAt := hideIt hat
        clear hat
        by_cases hj8 : j < 8
        · have hj8' : (j : Int) < 8 := by omega
          have bx := HAt.out.bx
          have HC := hideIt (HLa0.out m.length (j : Int) wr (Nat.le_refl _) _ _ HAt.out)
          have hWs : w.heap.size + 3 ≤ wr.heap.size := by
            have : w.heap.size + 2 < wr.heap.size := World.block_lt_of_cell? wr _ HAt.out.nb
            omega
          go_wp2_with fail
          refine HC.out.mono ?_
          clear HC
          rintro e w3 ⟨g3, rfl, ht3, hb3⟩
          obtain ⟨w4, hr4, hs4⟩ := (HAt.out.below hb3).put (G := sn2 m (j + 1)) (by omega) (p := -1) (q := 0) (r := (j : Int)) ⟨wf_small (by omega) (by omega), wf_small (by omega) (by omega), wf_small (by omega) (by omega)⟩ (ht3.base hWs) (fun x y z => rfl)
          have HS4 := hideIt hs4
          unfold tripV two at hr4
          unfold two
          clear ht3 hb3 hs4 HAt bx
          go_wp2
          go_roundw
          case rel => exact ⟨j + 1, by omega, by go_num, HS4.out⟩
          case measure => simp [intOf]; omega
        · obtain rfl : j = 8 := by omega
          go_wp2
          go_ret
          exact ⟨_, rfl, by omega, HAt.out.sn.low (by omega), HAt.out.bel⟩
end Go.Proofs.YtibdchahallbjabDoor

namespace Go.Proofs.YtibdchahallbjabDoor

theorem ser_map (d : List Stp) : ∀ row : List Nat, serL txS d row = (apL d row).map (stZ d)
  | [] => rfl
  | t :: row => by
    have ih := ser_map d row
    unfold apL at ih ⊢
    show d.filter (fun s => txS s == t) ++ serL txS d row = ((List.range d.length).filter (fun n => txN d n == t) ++ serL (txN d) (List.range d.length) row).map (stZ d)
    rw [List.map_append, ← ih]
    congr 1
    have e : d = (List.range d.length).map (stZ d) := (range_map d).symm
    conv => lhs; rw [e]
    rw [List.filter_map]
    rfl
theorem sn2_wf {d : List Stp} (hd : DOk d) (hn : d.length ≤ 500) {a b c : Int} {v : Int × Int} (h : sn2 d 8 a b c = some v) : Wf3 a b c := by
  rcases sn2_inv h with ⟨rfl, rfl, h1, h2, _⟩ | h
  · exact ⟨wf_small (by omega) (by omega), wf_small (by omega) (by omega), wf_small (by omega) (by omega)⟩
  · obtain ⟨k, hk, _, rfl, rfl, rfl, _⟩ := sn1_inv h
    have h1 := hd k hk
    have h2 : numS d k ≤ 500 := by
      unfold numS
      exact Nat.le_trans List.countP_le_length (by rw [List.length_take]; omega)
    exact ⟨wf_small (by omega) (by omega), wf_small (by omega) (by omega), wf_small (by omega) (by omega)⟩
/-- Steps whose transactions are all among some. -/
def Within (d : List Stp) (all : List Nat) : Prop := ∀ n, n < d.length → txN d n ∈ all
theorem full_fit {d : List Stp} (hd : DOk d) {all row : List Nat} (hw : Within d all) (hn : row.Nodup) (hs : ∀ x ∈ row, x ∈ all) (hl : row.length = all.length) : fitB d row = true ↔ seenIn d (serL txS d row) := by
  have hall : ∀ x ∈ all, x ∈ row := fun x hx => by
    refine Classical.byContradiction fun hno => ?_
    have := nodup_sub (l := x :: row) (m := all) (List.nodup_cons.2 ⟨hno, hn⟩) fun y hy => by
      rcases List.mem_cons.1 hy with rfl | hy
      · exact hx
      · exact hs y hy
    rw [List.length_cons] at this
    omega
  rw [fitB_iff hd, ser_map, ← seen_fit hd (dealt_ap hn fun n h => hall _ (hw n h))]
theorem ser_ok {d : List Stp} (hd : DOk d) (row : List Nat) : ∀ n, n < (serL txS d row).length → (0 ≤ (stZ (serL txS d row) n).p ∧ (stZ (serL txS d row) n).p ≤ 7) ∧ (0 ≤ (stZ (serL txS d row) n).m ∧ (stZ (serL txS d row) n).m ≤ 7) := fun n hn => by
  have hm := List.getElem_mem hn
  rw [← stZ_at hn] at hm
  obtain ⟨h1, _⟩ := (serL_mem _).1 hm
  obtain ⟨i, hi, e⟩ := List.getElem_of_mem h1
  have := hd i hi
  rw [stZ_at hi, e] at this
  exact ⟨this.1, this.2.1⟩
theorem ser_len (d : List Stp) : ∀ row : List Nat, (serL txS d row).length ≤ row.length * d.length
  | [] => by simp [serL]
  | t :: row => by
    have ih := ser_len d row
    have e : (t :: row).length * d.length = row.length * d.length + d.length := by rw [List.length_cons, Nat.add_mul, Nat.one_mul]
    show (d.filter (fun s => txS s == t) ++ serL txS d row).length ≤ _
    rw [List.length_append, e]
    have := List.length_filter_le (fun s => txS s == t) d
    omega
theorem within_done {l : List Stp} (ok : OkS l) : Within (doneL l) (cmL l) := fun n hn' => by
  have hd := DOk.of ok
  unfold cmL
  have h1 := (hd n hn').1
  have h2 := List.getElem_mem hn'
  rw [← stZ_at hn'] at h2
  have h3 := (List.mem_filter.1 h2).2
  unfold doneB at h3
  simp at h3
  rw [List.mem_filter, List.mem_range]
  unfold txN
  refine ⟨by omega, ?_⟩
  rw [show (((stZ (doneL l) n).p.toNat : Nat) : Int) = (stZ (doneL l) n).p by omega]
  exact h3.2
end Go.Proofs.YtibdchahallbjabDoor
