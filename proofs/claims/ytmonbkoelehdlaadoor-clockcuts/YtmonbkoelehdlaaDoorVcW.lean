/-
  Package clock's Vectors, walked.
-/
import Derived.Test.YtmonbkoelehdlaaDoorVecM
import Derived.Deep.RegionHeld3
namespace Go.Proofs.YtmonbkoelehdlaaDoor
open Go.RowKit

theorem SoTab.grown {l : List Stp} {w wr w' : World} {vs : Nat → Value} {b : Nat} (h : SoTab l w wr l.length [] vs) (hg : wr.grownBy w' (some b)) (hb : b < w.heap.size) : SoTab l w w' l.length [] vs := by
  refine TabN.apart h hg (by simp; omega) fun q hq b' hb' => ?_
  have := (ownsRow_block (TabN.rows h q hq) b' hb').1
  simp
  omega

/-- What Vectors tells. -/
def VcTold (l : List Stp) (w : World) (e : Ending) (w' : World) : Prop :=
  ∃ v err n pl, e = .returned (.tuple #[v, err]) ∧ CkC l n pl ∧ ErrAt w' err n pl ∧ (n ≠ 0 → v = .slice none 0 0) ∧ (n = 0 → ∃ g, v = .slice (some ⟨g, 0, none⟩) l.length l.length ∧ w.heap.size ≤ g ∧ VecsB w' g l.length (vecI l)) ∧ Below w.heap.size w w'

set_option maxRecDepth 100000 in
set_option maxHeartbeats 4000000 in
theorem vectors_any (l : List Stp) (a : Option Addr) (cap : Nat) (w : World) (hmax : l.length ≤ maxLen) (hl : StpsQ w a l) :
    Calls Tryd.prog 16 #[.slice a l.length cap] w fun e w' => VcTold l w e w' := by
  have HC := hideIt (check_any l a cap w hmax hl)
  have HL := hideIt hl
  clear hl
  go_enter Tryd.func16, Tryd.ntmps16
  go_wp2_with fail
  refine HC.out.mono ?_
  rintro e w1 ⟨err, n, pl, rfl, hck, her, hb1⟩
  have HCk := hideIt hck
  have HB1 := hideIt hb1
  clear hck hb1 HC
  by_cases hn : n = 0
  · subst hn
    obtain ⟨rfl, rfl⟩ := her.nil
    clear her
    have hok := HCk.out.ok
    have h40 := hok.1
    have HFine := hideIt hok.2.1
    clear hok
    have hmk := made39 w1 l.length (by omega)
    have HI0 := hideIt (vecsB_made w1 l.length)
    have HB2 : Hid (Below w.heap.size w (w1.alloc (.cells (madeCells (vecL fun _ => 0).toArray (l.length * 8)) 45))) := belA HB1.out _
    have HSo := hideIt (sources_any l a cap (w1.alloc (.cells (madeCells (vecL fun _ => 0).toArray (l.length * 8)) 45)) h40 HFine.out (HL.out.below HB2.out))
    go_wp2_with fail
    refine HSo.out.mono ?_
    rintro e w3 ⟨vs, rfl, hso, hb3⟩
    have HT := hideIt hso
    have HI := hideIt (HI0.out.below hb3 (by simp))
    have HB3 := hideIt (belJ HB2.out hb3)
    have hG : w1.heap.size < (w1.alloc (.cells (madeCells (vecL fun _ => 0).toArray (l.length * 8)) 45)).heap.size := by simp
    clear hso hb3 HSo HI0 HB2 hmk
    generalize w1.alloc (.cells (madeCells (vecL fun _ => 0).toArray (l.length * 8)) 45) = W2 at HT hG ⊢
    go_wp2
    go_loopw [21] (fun i wr => ∃ (k : Nat), k ≤ l.length ∧ i = .int .i64 k ∧ VecsB wr w1.heap.size l.length (vcF l k fun _ => 0) ∧ SoTab l W2 wr l.length [] vs ∧ Below w.heap.size w wr) (fun i _ => l.length - (intOf i).toNat)
    case atStart => exact ⟨0, Nat.zero_le _, rfl, HI.out.same fun i q _ _ => by simp [vcF], HT.out, HB3.out⟩
    case round =>
      clear HT HI HB3
      obtain ⟨k, hk, rfl, hi, hso, hb⟩ := hrel
      have HI := hideIt hi
      have HT := hideIt hso
      have HB := hideIt hb
      clear hi hso hb
      by_cases hkl : k < l.length
      · obtain ⟨b, off, rfl, hlt, hst⟩ : ∃ b off, a = some ⟨b, off, none⟩ ∧ b < w.heap.size ∧ StpsAt w b off l := by
          rcases HL.out with h | h
          · subst h; simp at hkl
          · exact h
        have HSt := hideIt (hst k hkl)
        clear hst HL
        obtain ⟨ra, rc, hc0, hrc, hrow⟩ := HT.out.read k hkl
        have HRow : Hid (∀ wq, SoTab l W2 wq l.length [] vs → ∀ j (hj : j < (predC l k).length), ∃ g, ra = some ⟨g, 0, none⟩ ∧ wq.cell? ⟨g, j, none⟩ = some (.int .i64 ((predC l k)[j] : Int))) := fun wq hq j hj => by
          obtain ⟨ra', rc', hc0', _, hrow'⟩ := hq.read k hkl
          have e1 := (TabN.tab hq).cell hkl
          have e2 := HT.out.tab.cell hkl
          rw [hc0'] at e1
          rw [hc0] at e2
          rw [← e2] at e1
          have e3 := Option.some.inj e1
          simp at e3
          rw [← e3.1]
          exact hrow' j hj
        have hfew := predC_few l k
        clear hrow
        go_wp2
        go_loopw [28] (fun i wr => ∃ r : Nat, r ≤ (predC l k).length ∧ i = .int .i64 r ∧ VecsB wr w1.heap.size l.length (vcF l k (jn (vecI l) ((predC l k).take r))) ∧ SoTab l W2 wr l.length [] vs ∧ Below w.heap.size w wr) (fun i _ => (predC l k).length - (intOf i).toNat)
        case atStart => exact ⟨0, Nat.zero_le _, rfl, HI.out.same fun i q _ _ => by simp [vcF, jn], HT.out, HB.out⟩
        case round =>
          clear HI HT HB hc0
          obtain ⟨r, hr, rfl, hi, hso, hb⟩ := hrel
          have HI := hideIt hi
          have HT := hideIt hso
          have HB := hideIt hb
          clear hi hso hb
          by_cases hrl : r < (predC l k).length
          · obtain ⟨g, rfl, hg⟩ := HRow.out wr HT.out r hrl
            have hjl := predC_lt (List.getElem_mem hrl)
            have HN := hideIt (jn_next (vecI l) (predC l k) hrl)
            generalize (predC l k)[r] = j at hg hjl HN
            obtain ⟨V, HV⟩ : ∃ V, Hid (jn (vecI l) ((predC l k).take r) = V) := ⟨_, hideIt rfl⟩
            rw [HV.out] at HI HN
            have v1 := (HI.out.at_ k hkl).same (u := V) fun q _ => by simp [vcF]
            have v2 := (HI.out.at_ j (by omega)).same (u := vecI l j) fun q _ => by simp [vcF, hjl]
            obtain ⟨c0, c1, c2, c3, c4, c5, c6, c7⟩ := v1.eight
            obtain ⟨d0, d1, d2, d3, d4, d5, d6, d7⟩ := v2.eight
            have hjL : j < l.length := by omega
            have hGl : w1.heap.size < wr.heap.size := HI.out.lt
            have HJ : Hid (∀ W, Calls Tryd.prog 31 #[vecA V, vecA (vecI l j)] W fun e w' => e = .returned (vecA (joinV V (vecI l j))) ∧ Below W.heap.size W w') := fun W => join_any V (vecI l j) W
            have HK : Hid (∀ W, Below wr.heap.size wr W → VecsB W w1.heap.size l.length (vcF l k V) ∧ SoTab l W2 W l.length [] vs ∧ Below w.heap.size w W) := fun W hW => ⟨HI.out.below hW hGl, TabN.below HT.out hW, belJ HB.out hW⟩
            unfold vecA at HJ
            clear v1 v2
            go_upto_region 11 with fail
            go_region_with (go_at_call 31; refine (HJ.out _).mono ?_; rintro e w2 ⟨rfl, hb2⟩; obtain ⟨hv2, hs2, hbb2⟩ := HK.out w2 (belJ (by repeat (first | exact Below.refl _ _ | refine Below.drew ?_ | refine belA ?_ _)) hb2); have HV2 := hideIt hv2; have HS2 := hideIt hs2; have HBB2 := hideIt hbb2; obtain ⟨y0, y1, y2, y3, y4, y5, y6, y7⟩ := (hv2.at_ k hkl).eight; have zf := hv2.fz; clear hb2 hv2 hs2 hbb2)
            all_goals
              have R1 : Hid (VecsB (w2.setCells w1.heap.size (k * 8) (vecL (joinV V (vecI l j)))) w1.heap.size l.length (vcF l k (jn (vecI l) ((predC l k).take (r + 1))))) := (HV2.out.store hkl (joinV V (vecI l j))).same fun i q _ _ => by
                rw [← HN.out]
                unfold vcF
                by_cases e : i = k
                · subst e; simp
                · simp [e]
              have R2 : Hid (SoTab l W2 (w2.setCells w1.heap.size (k * 8) (vecL (joinV V (vecI l j)))) l.length [] vs) := HS2.out.grown (grown_setCells _ _ _ _) hG
              have R3 : Hid (Below w.heap.size w (w2.setCells w1.heap.size (k * 8) (vecL (joinV V (vecI l j))))) := HBB2.out.grown (grown_setCells _ _ _ _) HBB2.out.size (fun b' hb' => by cases hb'; exact HB1.out.size)
              go_wp2
              go_roundw
              case rel => exact ⟨r + 1, by omega, by go_num, R1.out, R2.out, R3.out⟩
              case measure => simp [intOf]; omega
          · obtain rfl : r = (predC l k).length := by omega
            rw [List.take_length] at HI
            obtain ⟨p, hp⟩ : ∃ p : Nat, (stZ l k).p = (p : Int) := ⟨(stZ l k).p.toNat, by have := (step_num HFine.out hkl).1; omega⟩
            have hp8 : p < 8 := by have := (step_num HFine.out hkl).1; omega
            have e0 := (HSt.out.below hlt HB.out).1
            rw [← stZ_at hkl, hp] at e0
            have HNx := hideIt (vec_next HCk.out.clOk hkl hp)
            have hnum := jn_num l k p
            obtain ⟨V, HV⟩ : ∃ V, Hid (jn (vecI l) (predC l k) = V) := ⟨_, hideIt rfl⟩
            rw [HV.out] at HI HNx hnum
            have c1 := HI.out.at_ k hkl p hp8
            rw [show vcF l k V k p = V p by simp [vcF]] at c1
            have z1 := HI.out.fz (k * 8 + p)
            have R1 : Hid (VecsB (wr.setCell ⟨w1.heap.size, k * 8 + p, none⟩ (.int .i64 (V p + 1))).drew w1.heap.size l.length (vcF l (k + 1) fun _ => 0)) := by
              have := (HI.out.put (k := k) hp8 (V p + 1)).same (f' := vcF l (k + 1) fun _ => 0) fun i q _ _ => by
                unfold vcF
                by_cases e : i = k
                · subst e
                  rw [if_pos (show i < i + 1 by omega), HNx.out q]
                  by_cases e2 : q = p
                  · subst e2; simp
                  · simp [e2]
                · by_cases e2 : i < k
                  · simp [e, e2, show i < k + 1 by omega]
                  · simp [e, e2, show ¬ i < k + 1 by omega]
              exact ⟨this.blk, this.at_⟩
            have R2 : Hid (SoTab l W2 (wr.setCell ⟨w1.heap.size, k * 8 + p, none⟩ (.int .i64 (V p + 1))).drew l.length [] vs) := TabN.drew (HT.out.set (p := ⟨w1.heap.size, k * 8 + p, none⟩) hG _)
            have R3 : Hid (Below w.heap.size w (wr.setCell ⟨w1.heap.size, k * 8 + p, none⟩ (.int .i64 (V p + 1))).drew) := (HB.out.setCell (p := ⟨w1.heap.size, k * 8 + p, none⟩) HB1.out.size _).drew
            have hp8' : (p : Int) < 8 := by omega
            go_wp2_with fail
            go_region
            all_goals
              go_wp2
              go_roundw
              case rel => exact ⟨k + 1, by omega, by go_num, R1.out, R2.out, R3.out⟩
              case measure => simp [intOf]; omega
      · obtain rfl : k = l.length := by omega
        go_wp2
        go_ret2
        exact ⟨_, _, 0, -1, rfl, HCk.out, .inl ⟨rfl, rfl, rfl⟩, fun h => absurd rfl h, fun _ => ⟨_, rfl, HB1.out.size, HI.out.same fun i q hi _ => by simp [vcF, hi]⟩, HB.out⟩
  · obtain ⟨t', u', rfl⟩ := her.ne hn
    have HE := hideIt her
    clear her
    go_wp2
    go_ret2
    exact ⟨_, _, n, pl, rfl, HCk.out, HE.out, fun _ => rfl, fun h => absurd h hn, HB1.out⟩
end Go.Proofs.YtmonbkoelehdlaaDoor
