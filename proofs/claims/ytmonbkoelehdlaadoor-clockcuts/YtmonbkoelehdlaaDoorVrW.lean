/-
  The document's Vectors, walked.
-/
import Derived.Test.YtmonbkoelehdlaaDoorTrW
import Derived.Test.YtmonbkoelehdlaaDoorVcW
namespace Go.Proofs.YtmonbkoelehdlaaDoor
open Go.RowKit

theorem info44 : (Tryd.prog.info? 44).map (fun i => (i.zero, i.size, i.bytes)) = some (some (vecA fun _ => 0), 8, 64) := by kernel_rfl
theorem made42 (w : World) (n : Nat) (hn : n ≤ 60) : (Instr.makeSlice 42 (.int .i64 (n : Int)) (.int .i64 (n : Int))).run Tryd.prog w = .ok (.slice (some ⟨w.heap.size, 0, none⟩) n n) (w.alloc (.cells (madeCells (vecL fun _ => 0).toArray (n * 8)) 44)) := by
  obtain ⟨i, hi, hz, hs, hb⟩ := info_parts' info44
  have := run_make (P := Tryd.prog) w 42 44 i (vecA fun _ => 0) Tryd.underlying42 hi hz .i64 .i64 (n : Int) (n : Int) (by omega) (Int.le_refl _) (by rw [hb]; omega) (by omega)
  have e : (vecA fun _ => 0).cells = (vecL fun _ => 0).toArray := rfl
  rw [e] at this
  simpa [hs] using this
theorem vecsB_made44 (w : World) (n : Nat) : VecsB (w.alloc (.cells (madeCells (vecL fun _ => 0).toArray (n * 8)) 44)) w.heap.size n (fun _ _ => 0) := by
  refine ⟨⟨_, _, heap_alloc_new w _⟩, fun k hk q hq => ?_⟩
  rw [cell_of_row _ w.heap.size _ _ 44 _ (heap_alloc_new w _)]
  have e1 : (k * 8 + q) % 8 = q := by omega
  have h8 : k * 8 + q < n * 8 := by omega
  have h2 := all8 (P := fun q => (vecL fun _ => 0)[q]? = some (Value.int .i64 0)) rfl rfl rfl rfl rfl rfl rfl rfl q hq
  simp [madeCells, h8]
  rw [show (vecL fun _ => 0).length = 8 from rfl, e1, h2]
  rfl

/-- How many of the first ones count. -/
def cntN (l : List Stp) (S : Nat → Bool) (i : Nat) (q : Nat) : Int := ((List.range i).countP fun j => S j && (stZ l j).p == (q : Int) : Nat)
theorem cntN_zero (l : List Stp) (S : Nat → Bool) (q : Nat) : cntN l S 0 q = 0 := rfl
theorem cntN_succ (l : List Stp) (S : Nat → Bool) (i q : Nat) : cntN l S (i + 1) q = cntN l S i q + if S i = true ∧ (stZ l i).p = (q : Int) then 1 else 0 := by
  unfold cntN
  rw [List.range_succ, List.countP_append]
  by_cases e : S i = true ∧ (stZ l i).p = (q : Int)
  · rw [if_pos e]; simp [e.1, e.2]
  · rw [if_neg e]
    have : (S i && (stZ l i).p == (q : Int)) = false := by
      cases hS : S i
      · rfl
      · simp; exact fun h => e ⟨hS, h⟩
    simp [this]
theorem cntN_all (l : List Stp) (S : Nat → Bool) (q : Nat) : cntN l S l.length q = (cntC l S (q : Int) : Int) := rfl
theorem cntN_num (l : List Stp) (S : Nat → Bool) (i q : Nat) : 0 ≤ cntN l S i q ∧ cntN l S i q ≤ i := by
  unfold cntN
  have := List.countP_le_length (p := fun j => S j && (stZ l j).p == (q : Int)) (l := List.range i)
  rw [List.length_range] at this
  omega

set_option maxRecDepth 100000 in
set_option maxHeartbeats 4000000 in
theorem rVectors_any (l : List Stp) (ok : ClOk l) (a : Option Addr) (cap : Nat) (w : World) (hl : StpsQ w a l) :
    Calls Tryd.prog 17 #[.slice a l.length cap] w fun e w' => ∃ g, e = .returned (.slice (some ⟨g, 0, none⟩) l.length l.length) ∧ VecsB w' g l.length (vecI l) ∧ Below w.heap.size w w' := by
  have h40 := ok.few
  have HC := hideIt (ahead9_any l a cap w (by omega) hl)
  have HL := hideIt hl
  clear hl
  go_enter Tryd.func17, Tryd.ntmps17
  go_wp2_with fail
  refine HC.out.mono ?_
  intro e w1 hA
  obtain ⟨v, rfl, hm, hb1⟩ := hA.read
  have HB1 := hideIt hb1
  have HM := hideIt hm
  obtain ⟨ma, mc, rfl, hmc, _⟩ := hm
  clear hA hb1 HC
  have hmk := made42 w1 l.length (by omega)
  have HI0 := hideIt (vecsB_made44 w1 l.length)
  have HB2 : Hid (Below w1.heap.size w1 (w1.alloc (.cells (madeCells (vecL fun _ => 0).toArray (l.length * 8)) 44))) := belA (Below.refl _ _) _
  go_wp2
  clear hmk
  generalize w1.alloc (.cells (madeCells (vecL fun _ => 0).toArray (l.length * 8)) 44) = W2 at HI0 HB2 ⊢
  go_loopw [14] (fun i wr => ∃ (k : Nat), k ≤ l.length ∧ i = .int .i64 k ∧ VecsB wr w1.heap.size l.length (vcF l k fun _ => 0) ∧ Below w1.heap.size w1 wr) (fun i _ => l.length - (intOf i).toNat)
  case atStart => exact ⟨0, Nat.zero_le _, rfl, HI0.out.same fun i q _ _ => by simp [vcF], HB2.out⟩
  case round =>
    clear HI0 HB2
    obtain ⟨k, hk, rfl, hi, hb⟩ := hrel
    have HI := hideIt hi
    have HB := hideIt hb
    clear hi hb
    by_cases hkl : k < l.length
    · obtain ⟨b, off, rfl, hlt, hst⟩ : ∃ b off, a = some ⟨b, off, none⟩ ∧ b < w.heap.size ∧ StpsAt w b off l := by
        rcases HL.out with h | h
        · subst h; simp at hkl
        · exact h
      have HSt := hideIt hst
      clear hst HL
      go_wp2
      go_loopw [19] (fun i wr => ∃ r : Nat, r ≤ l.length ∧ i = .int .i64 r ∧ VecsB wr w1.heap.size l.length (vcF l k (cntN l (inC l k) r)) ∧ Below w1.heap.size w1 wr) (fun i _ => l.length - (intOf i).toNat)
      case atStart => exact ⟨0, Nat.zero_le _, rfl, HI.out.same fun i q _ _ => by simp [vcF, cntN_zero], HB.out⟩
      case round =>
        clear HI HB
        obtain ⟨r, hr, rfl, hi, hb⟩ := hrel
        have HI := hideIt hi
        have HB := hideIt hb
        clear hi hb
        by_cases hrl : r < l.length
        · obtain ⟨ma', mc', hv', _, hrd⟩ := HM.out.below HB.out
          simp at hv'
          obtain ⟨rfl, rfl⟩ := hv'
          obtain ⟨g, moff, rr, rfl, e1, e2⟩ := hrd r (by omega)
          have e3 := e2 k hkl
          clear e2 hrd
          obtain ⟨p, hp⟩ : ∃ p : Nat, (stZ l r).p = (p : Int) := ⟨(stZ l r).p.toNat, by have := ok.proc r hrl; omega⟩
          have hp8 : p < 8 := by have := ok.proc r hrl; omega
          have e0 := (HSt.out r hrl).below hlt (belJ HB1.out HB.out)
          have f0 := e0.1
          rw [← stZ_at hrl, hp] at f0
          clear e0
          have hnum := cntN_num l (inC l k) r p
          obtain ⟨V, HV⟩ : ∃ V, Hid (cntN l (inC l k) r = V) := ⟨_, hideIt rfl⟩
          have HNx : Hid (∀ q, cntN l (inC l k) (r + 1) q = V q + if inC l k r = true ∧ q = p then 1 else 0) := fun q => by
            rw [cntN_succ, HV.out, hp]
            have : ((p : Int) = (q : Int)) ↔ q = p := by omega
            simp [this]
          rw [HV.out] at HI hnum
          have c1 := HI.out.at_ k hkl p hp8
          rw [show vcF l k V k p = V p by simp [vcF]] at c1
          have z1 := HI.out.fz (k * 8 + p)
          have hp8' : (p : Int) < 8 := by omega
          have HYes : Hid (inC l k r = true → VecsB (wr.setCell ⟨w1.heap.size, k * 8 + p, none⟩ (.int .i64 (V p + 1))).drew w1.heap.size l.length (vcF l k (cntN l (inC l k) (r + 1)))) := fun hin => by
            have := (HI.out.put (k := k) hp8 (V p + 1)).same (f' := vcF l k (cntN l (inC l k) (r + 1))) fun i q _ _ => by
              unfold vcF
              by_cases e : i = k
              · subst e
                rw [HNx.out q]
                by_cases e2 : q = p
                · subst e2; simp [hin]
                · simp [e2]
              · simp [e]
            exact ⟨this.blk, this.at_⟩
          have HNo : Hid (inC l k r = false → VecsB wr w1.heap.size l.length (vcF l k (cntN l (inC l k) (r + 1)))) := fun hin => HI.out.same fun i q _ _ => by
            unfold vcF
            rw [HNx.out q]
            simp [hin]
          have R3 : Hid (Below w1.heap.size w1 (wr.setCell ⟨w1.heap.size, k * 8 + p, none⟩ (.int .i64 (V p + 1))).drew) := (HB.out.setCell (p := ⟨w1.heap.size, k * 8 + p, none⟩) (Nat.le_refl _) _).drew
          by_cases hrk : r = k
          · subst hrk
            have R1 := hideIt (HYes.out (by simp [inC]))
            have hd : ((r : Int) == (r : Int)) = true := by simp
            clear HYes HNo
            go_upto_region 10 with fail
            go_region
            all_goals
              go_wp2
              go_roundw
              case rel => exact ⟨r + 1, by omega, by go_num, R1.out, R3.out⟩
              case measure => simp [intOf]; omega
          · have hd : ((r : Int) == (k : Int)) = false := by simp; omega
            cases ha : aheadC l r k
            · rw [ha] at e3
              have R1 := hideIt (HNo.out (by simp [inC, hrk, ha]))
              clear HYes HNo ha
              go_wp2
              go_roundw
              case rel => exact ⟨r + 1, by omega, by go_num, R1.out, HB.out⟩
              case measure => simp [intOf]; omega
            · rw [ha] at e3
              have R1 := hideIt (HYes.out (by simp [inC, ha]))
              clear HYes HNo ha
              go_upto_region 10 with fail
              go_region
              all_goals
                go_wp2
                go_roundw
                case rel => exact ⟨r + 1, by omega, by go_num, R1.out, R3.out⟩
                case measure => simp [intOf]; omega
        · obtain rfl : r = l.length := by omega
          have R1 : Hid (VecsB wr w1.heap.size l.length (vcF l (k + 1) fun _ => 0)) := HI.out.same fun i q _ _ => by
            unfold vcF
            by_cases e : i = k
            · subst e; simp [cntN_all]; rfl
            · by_cases e2 : i < k
              · simp [e2, show i < k + 1 by omega]
              · simp [e, e2, show ¬ i < k + 1 by omega]
          go_wp2
          go_roundw
          case rel => exact ⟨k + 1, by omega, by go_num, R1.out, HB.out⟩
          case measure => simp [intOf]; omega
    · obtain rfl : k = l.length := by omega
      go_wp2
      go_ret
      exact ⟨_, rfl, HI.out.same fun i q hi _ => by simp [vcF, hi], belJ HB1.out HB.out⟩
end Go.Proofs.YtmonbkoelehdlaaDoor
