/-
  The program's Closed, leader and Groups, walked.
-/
import Derived.Test.YtaopigjhdkdklaaDoorMnPZ
import Derived.Test.YtaopigjhdkdklaaDoorPgWZ
import Derived.Test.YtaopigjhdkdklaaDoorGoWZ
namespace Go.Proofs.YtaopigjhdkdklaaDoor
open Go.RowKit

/-- Blocks of a world from lo on are as they were. -/
structure Kp (W wr : World) (lo : Nat) : Prop where
  size : W.heap.size ≤ wr.heap.size
  blk : ∀ b, lo ≤ b → b < W.heap.size → wr.heap[b]? = W.heap[b]?
theorem Kp.refl (W : World) (lo : Nat) : Kp W W lo := ⟨Nat.le_refl _, fun _ _ _ => rfl⟩
theorem Kp.alloc {W wr : World} {lo : Nat} (h : Kp W wr lo) (o : Obj) : Kp W (wr.alloc o) lo := ⟨by have := h.size; simp; omega, fun b h1 h2 => (Below.heap_alloc _ _ b (Nat.lt_of_lt_of_le h2 h.size)).trans (h.blk b h1 h2)⟩
theorem Kp.set {W wr : World} {lo : Nat} (h : Kp W wr lo) {p : Addr} (hp : p.block < lo ∨ W.heap.size ≤ p.block) (u : Value) : Kp W (wr.setCell p u) lo := ⟨by have := h.size; simp; omega, fun b h1 h2 => (Below.heap_setCell wr p u b (by omega)).trans (h.blk b h1 h2)⟩
theorem Kp.nums {W wr : World} {lo g n : Nat} {f : Nat → Nat} (h : Kp W wr lo) (hn : NumsAt W g n f) (hg : lo ≤ g) : NumsAt wr g n f := hn.block (h.blk g hg hn.lt)
theorem Kp.cell {W wr : World} {lo : Nat} (h : Kp W wr lo) {g i : Nat} {x : Value} (hg : lo ≤ g) (hc : W.cell? ⟨g, i, none⟩ = some x) : wr.cell? ⟨g, i, none⟩ = some x :=
  (World.cell?_of_block (a := ⟨g, i, none⟩) (h.blk g hg (World.block_lt_of_cell? W _ hc))).trans hc

theorem made_graph (w : World) (n : Nat) (hn : n ≤ 60) : (Instr.makeSlice 56 (.int .i64 (n : Int)) (.int .i64 (n : Int))).run Tryd.prog w = .ok (.slice (some ⟨w.heap.size, 0, none⟩) n n) (w.alloc (.cells (madeCells #[.slice none 0 0] n) 46)) := by
  obtain ⟨i, hi, hz, hs, hb⟩ := info_parts' info46
  have := run_make (P := Tryd.prog) w 56 46 i (.slice none 0 0) Tryd.underlying56 hi hz .i64 .i64 (n : Int) (n : Int) (by omega) (Int.le_refl _) (by rw [hb]; omega) (by omega)
  have e : (Value.slice none 0 0).cells = #[.slice none 0 0] := rfl
  rw [e] at this
  simpa [hs] using this

def midB (A : Nat → Nat → Bool) (m k : Nat) : Nat → Nat → Bool := fun a b => if a = m ∧ k ≤ b then false else A a b
theorem midB_put (A : Nat → Nat → Bool) (m k : Nat) (x : Bool) (h : A m k = x) (a b : Nat) : (if a = m ∧ b = k then x else midB A m k a b) = midB A m (k + 1) a b := by
  unfold midB
  by_cases e : a = m ∧ b = k
  · obtain ⟨rfl, rfl⟩ := e
    rw [if_pos ⟨rfl, rfl⟩, if_neg (by omega), h]
  · rw [if_neg e]
    by_cases e' : a = m ∧ k + 1 ≤ b
    · rw [if_pos (by omega), if_pos e']
    · rw [if_neg (by omega), if_neg e']
theorem midB_end (A : Nat → Nat → Bool) (m n a b : Nat) (hb : b < n) : midB A m n a b = A a b := by
  unfold midB
  rw [if_neg (by omega)]

/-- What Closed tells. -/
def PcTold (R : List (List Bool)) (w : World) (e : Ending) (w' : World) : Prop :=
  ∃ v, e = .returned (.tuple #[v, toldV (ckG R)]) ∧ (ckG R = 0 → ∃ B rb, v = .slice (some ⟨B, 0, none⟩) R.length R.length ∧ MatAt w' w.heap.size B R.length R.length rb (war (gB R) R.length)) ∧ (ckG R ≠ 0 → v = .slice none 0 0) ∧ Below w.heap.size w w'

set_option maxRecDepth 100000 in
set_option maxHeartbeats 8000000 in
theorem gClosed_any (R : List (List Bool)) (a : Option Addr) (cap : Nat) (w : World) (hmax : R.length ≤ maxLen) (hrm : ∀ r ∈ R, r.length ≤ maxLen) (hg : GrQ w a R) :
    Calls Tryd.prog 65 #[.slice a R.length cap] w fun e w' => PcTold R w e w' := by
  have HC := hideIt (gCheck_any R a cap w hmax hrm hg)
  by_cases ok : ckG R = 0
  · have h40 := (ckG_ok ok).1
    rw [ok] at HC
    have hmk := made_graph w R.length (by omega)
    have HM0 := hideIt (mat_made w R.length)
    have HB0 : Hid (Below w.heap.size w (w.alloc (.cells (madeCells #[.slice none 0 0] R.length) 46))) := belA (Below.refl _ _) _
    have HDi := hideIt (distances_any R ok a cap (w.alloc (.cells (madeCells #[.slice none 0 0] R.length) 46)) (hg.below HB0.out))
    rw [show (w.alloc (.cells (madeCells #[.slice none 0 0] R.length) 46)).heap.size = w.heap.size + 1 by simp] at HDi
    have HWr : Hid (∀ i k, i < R.length → k < R.length → decide (0 < farG (gB R) R.length i k) = war (gB R) R.length i k) := fun i k hi hk => far_war hi hk
    unfold PcTold
    rw [ok]
    clear hg ok hrm hmax
    generalize farG (gB R) R.length = D at HDi HWr
    generalize war (gB R) R.length = A at HWr ⊢
    generalize R.length = n at *
    go_enter Tryd.func65, Tryd.ntmps65
    go_wp2_with fail
    refine HC.out.mono ?_
    clear HC
    rintro e w1 ⟨rfl, rfl⟩
    have ht0 : toldV 0 = .nilIface := rfl
    rw [ht0]
    go_wp2_with fail
    refine HDi.out.mono ?_
    clear HDi hmk
    rintro e W1 ⟨B, rb, rfl, hN, hb1⟩
    have HN := hideIt hN
    have hS : w1.heap.size + 1 ≤ W1.heap.size := by have := hb1.size; simpa using this
    have HM1 : Hid (MatAt W1 w1.heap.size w1.heap.size n 0 (fun _ => 0) A) := (HM0.out.below (by simpa using hb1)).same fun i k hi => absurd hi (by omega)
    have HB1 : Hid (Below w1.heap.size w1 W1) := HB0.out.trans (hb1.mono (by omega))
    clear hN hb1 HM0 HB0
    go_wp2
    go_loopw [21] (fun v wr => ∃ (m : Nat) (cb : Nat → Nat), m ≤ n ∧ v = .int .i64 m ∧ MatAt wr w1.heap.size w1.heap.size n m cb A ∧ (∀ i, i < m → W1.heap.size ≤ cb i) ∧ Kp W1 wr (w1.heap.size + 1) ∧ Below w1.heap.size w1 wr) (fun v _ => n - (intOf v).toNat)
    case atStart => exact ⟨0, _, Nat.zero_le _, rfl, HM1.out, fun i hi => absurd hi (by omega), Kp.refl _ _, HB1.out⟩
    case round =>
      clear HM1 HB1
      obtain ⟨m, cb, hm, rfl, hM, hcb, hkp, hb⟩ := hrel
      have HM := hideIt hM
      have HB := hideIt hb
      have HCb := hideIt hcb
      have HKp := hideIt hkp
      clear hM hb hcb hkp
      by_cases hmn : m < n
      · have hmn' : (m : Int) < n := by omega
        have r0 := HKp.out.cell HN.out.lo (HN.out.head m hmn)
        have hmk := made_bits wr n (by omega)
        have HMa := hideIt (HM.out.alloc (.cells (madeCells #[.bool false] n) 4))
        have HN1 := hideIt (bits_made wr n)
        have hBl := HM.out.lt
        have hBs := HB.out.size
        have hks := HKp.out.size
        obtain ⟨ov, hov⟩ := HMa.out.room m hmn
        have hfz := HMa.out.fz m
        have HB1 : Hid (Below w1.heap.size w1 ((wr.alloc (.cells (madeCells #[.bool false] n) 4)).setCell ⟨w1.heap.size, m, none⟩ (.slice (some ⟨wr.heap.size, 0, none⟩) n n))) := (belA HB.out _).setCell (p := ⟨w1.heap.size, m, none⟩) (Nat.le_refl _) _
        have HK1 : Hid (Kp W1 ((wr.alloc (.cells (madeCells #[.bool false] n) 4)).setCell ⟨w1.heap.size, m, none⟩ (.slice (some ⟨wr.heap.size, 0, none⟩) n n)) (w1.heap.size + 1)) := (HKp.out.alloc _).set (p := ⟨w1.heap.size, m, none⟩) (.inl (Nat.lt_succ_self _)) _
        have HM2 : Hid (MatAt ((wr.alloc (.cells (madeCells #[.bool false] n) 4)).setCell ⟨w1.heap.size, m, none⟩ (.slice (some ⟨wr.heap.size, 0, none⟩) n n)) w1.heap.size w1.heap.size n (m + 1) (fun i => if i = m then wr.heap.size else cb i) (midB A m 0)) :=
          (HMa.out.add hmn HN1.out hBs (by omega) (fun i hi => Nat.ne_of_lt (HM.out.row i hi).lt)).same fun i k _ _ => by
            unfold midB
            by_cases e : i = m
            · rw [if_pos e, if_pos ⟨e, Nat.zero_le _⟩]
            · rw [if_neg e, if_neg (fun h => e h.1)]
        have HC2 : Hid (∀ i, i < m + 1 → W1.heap.size ≤ (fun i => if i = m then wr.heap.size else cb i) i) := fun i hi => by
          by_cases e : i = m
          · show _ ≤ (if i = m then wr.heap.size else cb i)
            rw [if_pos e]; exact hks
          · show _ ≤ (if i = m then wr.heap.size else cb i)
            rw [if_neg e]; exact HCb.out i (by omega)
        rw [World.setCell_alloc_past _ _ _ _ hBl] at HM2 HB1 HK1
        clear HMa HN1 HM HCb
        go_wp2
        clear hmk hov hfz r0
        generalize (wr.setCell _ _).alloc _ = W2 at HB1 HM2 HK1 ⊢
        obtain ⟨cb1, HM2, HC2⟩ : ∃ cb1, Hid (MatAt W2 w1.heap.size w1.heap.size n (m + 1) cb1 (midB A m 0)) ∧ Hid (∀ i, i < m + 1 → W1.heap.size ≤ cb1 i) := ⟨_, HM2, HC2⟩
        clear HB hBl hBs hks HKp
        go_loopw [34] (fun v wz => ∃ k : Nat, k ≤ n ∧ v = .int .i64 k ∧ MatAt wz w1.heap.size w1.heap.size n (m + 1) cb1 (midB A m k) ∧ Kp W1 wz (w1.heap.size + 1) ∧ Below w1.heap.size w1 wz) (fun v _ => n - (intOf v).toNat)
        case atStart => exact ⟨0, Nat.zero_le _, rfl, HM2.out, HK1.out, HB1.out⟩
        case round =>
          clear HM2 HB1 HK1
          obtain ⟨k, hk, rfl, hM, hkp, hb⟩ := hrel
          have HM := hideIt hM
          have HB := hideIt hb
          have HKp := hideIt hkp
          clear hM hb hkp
          by_cases hkn : k < n
          · have hkn' : (k : Int) < n := by omega
            have r1 := (HKp.out.nums (HN.out.row m hmn) (HN.out.from_ m hmn).1).num k hkn
            have c0 := HM.out.head m (by omega)
            have c1 := (HM.out.row m (by omega)).bit k hkn
            have z1 := (HM.out.row m (by omega)).fz k
            have hge := (HM.out.from_ m (by omega)).1
            have hcm := HC2.out m (by omega)
            have hw := HWr.out m k hmn hkn
            have HPut : Hid (∀ x : Bool, A m k = x → MatAt (wr.setCell ⟨cb1 m, k, none⟩ (.bool x)) w1.heap.size w1.heap.size n (m + 1) cb1 (midB A m (k + 1)) ∧ Kp W1 (wr.setCell ⟨cb1 m, k, none⟩ (.bool x)) (w1.heap.size + 1) ∧ Below w1.heap.size w1 (wr.setCell ⟨cb1 m, k, none⟩ (.bool x))) := fun x h =>
              ⟨(HM.out.put (by omega) hkn x).same fun i b _ _ => midB_put A m k x h i b, HKp.out.set (p := ⟨cb1 m, k, none⟩) (.inr hcm) _, HB.out.setCell (p := ⟨cb1 m, k, none⟩) hge _⟩
            generalize midB A m k m k = old at c1
            generalize D m k = d at r1 hw
            have R1 := hideIt (HPut.out (decide (0 < d)) hw.symm)
            clear HPut hw
            go_wp2
            go_roundw
            case rel => exact ⟨k + 1, by omega, by go_num, R1.out⟩
            case measure => simp [intOf]; omega
          · obtain rfl : k = n := by omega
            have R1 : Hid (MatAt wr w1.heap.size w1.heap.size k (m + 1) cb1 A) := HM.out.same fun i b _ hb => midB_end _ _ _ _ _ hb
            go_wp2
            go_roundw
            case rel => exact ⟨m + 1, cb1, by omega, by go_num, R1.out, HC2.out, HKp.out, HB.out⟩
            case measure => simp [intOf]; omega
      · obtain rfl : m = n := by omega
        go_wp2
        go_ret2
        exact ⟨_, rfl, fun _ => ⟨_, cb, rfl, HM.out⟩, fun h => absurd rfl h, HB.out⟩
  · have hn : toldV (ckG R) = .iface 29 (.int .i64 (ckG R)) := by unfold toldV; rw [if_neg ok]
    rw [hn] at HC
    unfold PcTold
    rw [hn]
    clear hg hrm hmax hn
    generalize ckG R = c at HC ok ⊢
    go_enter Tryd.func65, Tryd.ntmps65
    go_wp2_with fail
    refine HC.out.mono ?_
    rintro e w1 ⟨rfl, rfl⟩
    go_wp2
    go_ret2
    exact ⟨_, rfl, fun h => absurd h ok, fun _ => rfl, Below.refl _ _⟩

theorem grpG_lead {g : Nat → Nat → Bool} {n i o : Nat} (hi : i < n) (ho : o < i) (h1 : war g n i o = true) (h2 : war g n o i = true) (hl : ∀ k, k < o → ¬ (war g n i k = true ∧ war g n k i = true)) : grpG g n i = o := by
  unfold grpG
  rw [firstN_at (k := o) (by omega) (fun j hj => ?_) (by simp [h1, h2])]
  · rfl
  · have := hl j hj
    simp at this ⊢
    exact ⟨by omega, this⟩
theorem grpG_self {g : Nat → Nat → Bool} {n i : Nat} (hi : i < n) (hl : ∀ k, k < i → ¬ (war g n i k = true ∧ war g n k i = true)) : grpG g n i = i := by
  unfold grpG
  rw [firstN_at (k := i) hi (fun j hj => ?_) (by simp)]
  · rfl
  · have := hl j hj
    simp at this ⊢
    exact ⟨by omega, this⟩

end Go.Proofs.YtaopigjhdkdklaaDoor
