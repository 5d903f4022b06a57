/-
  The statement ClockCuts, walked.
-/
import Derived.Test.YtmonbkoelehdlaaDoorCtB
import Derived.Test.YtmonbkoelehdlaaDoorLbC
import Derived.Deep.QuietTactic
import Derived.BigQuiet
import Derived.Deep.CutBlock
namespace Go.Proofs.YtmonbkoelehdlaaDoor
open Go.RowKit

/-- How many of the first ones count. -/
def cntFst (l : List Stp) (i : Nat) (q : Nat) : Int := ((List.range i).countP fun j => (stZ l j).p == (q : Int) : Nat)
theorem cntFst_succ (l : List Stp) (i q : Nat) : cntFst l (i + 1) q = cntFst l i q + if (stZ l i).p = (q : Int) then 1 else 0 := by
  unfold cntFst
  rw [List.range_succ, List.countP_append]
  by_cases e : (stZ l i).p = (q : Int)
  · rw [if_pos e]; simp [e]
  · rw [if_neg e]; simp [e]
theorem cntFst_num (l : List Stp) (i q : Nat) : 0 ≤ cntFst l i q ∧ cntFst l i q ≤ i := by
  unfold cntFst
  have := List.countP_le_length (p := fun j => (stZ l j).p == (q : Int)) (l := List.range i)
  rw [List.length_range] at this
  omega
theorem cntFst_all (l : List Stp) (q : Nat) : cntFst l l.length q = (allC l (q : Int) : Int) := by
  unfold cntFst allC cntC
  simp

/-- An answer of the document's in memory. -/
structure FlB (w : World) (g : Nat) (n pl : Int) : Prop where
  blk : ∃ cur t, w.heap[g]? = some (.cells cur t (0, 0))
  c0 : w.cell? ⟨g, 0, none⟩ = some (.int .i64 n)
  c1 : w.cell? ⟨g, 1, none⟩ = some (.int .i64 pl)
section
variable {w w' : World} {g : Nat} {n pl : Int}
theorem FlB.lt (h : FlB w g n pl) : g < w.heap.size := World.block_lt_of_cell? w _ h.c0
theorem FlB.block (h : FlB w g n pl) (hb : w'.heap[g]? = w.heap[g]?) : FlB w' g n pl := by
  obtain ⟨cur, t, hc⟩ := h.blk
  exact ⟨⟨cur, t, hb.trans hc⟩, (World.cell?_of_block (a := ⟨g, 0, none⟩) hb).trans h.c0, (World.cell?_of_block (a := ⟨g, 1, none⟩) hb).trans h.c1⟩
theorem FlB.below (h : FlB w g n pl) (hb : Below w.heap.size w w') : FlB w' g n pl := h.block (hb.block g h.lt)
theorem FlB.other (h : FlB w g n pl) {p : Addr} (hp : g ≠ p.block) (x : Value) : FlB (w.setCell p x) g n pl := h.block (Below.heap_setCell w p x g hp)
theorem FlB.fz (h : FlB w g n pl) (i : Nat) : w.frozen? ⟨g, i, none⟩ = false := by
  obtain ⟨cur, t, hc⟩ := h.blk
  exact frozen_of_row w g i cur t hc
theorem FlB.put (h : FlB w g n pl) (m : Int) : FlB (w.setCell ⟨g, 0, none⟩ (.int .i64 m)) g m pl := by
  obtain ⟨cur, t, hc⟩ := h.blk
  obtain ⟨cur', hc', _⟩ := heap_setCell hc 0 (.int .i64 m)
  exact ⟨⟨cur', t, hc'⟩, World.cell?_setCell_same _ _ _ h.c0, (World.cell?_setCell_other _ _ _ _ (offN (by omega))).trans h.c1⟩
end

/-- What the statement's body works on. -/
structure CtAt (w w1 : World) (G : Nat) (wx : World) (n pl : Int) (al : Nat → Int) : Prop where
  flt : FlB wx G n pl
  all : VecB wx (G + 1) al
  bq : Below w1.heap.size w1 wx
  b : Below w.heap.size w wx
section
variable {w w1 wx wy : World} {G : Nat} {n pl : Int} {al : Nat → Int}
theorem CtAt.below (h : CtAt w w1 G wx n pl al) (hb : Below wx.heap.size wx wy) : CtAt w w1 G wy n pl al := ⟨h.flt.below hb, h.all.below hb h.all.lt, belJ h.bq hb, belJ h.b hb⟩
theorem CtAt.putA (h : CtAt w w1 G wx n pl al) (h0 : w.heap.size ≤ G) (h1 : w1.heap.size ≤ G) {m : Nat} (hm : m < 8) (x : Int) : CtAt w w1 G (wx.setCell ⟨G + 1, m, none⟩ (.int .i64 x)) n pl (fun q => if q = m then x else al q) :=
  ⟨h.flt.other (p := ⟨G + 1, m, none⟩) (by show G ≠ G + 1; omega) _, h.all.put hm x, h.bq.setCell (p := ⟨G + 1, m, none⟩) (by show w1.heap.size ≤ G + 1; omega) _, h.b.setCell (p := ⟨G + 1, m, none⟩) (by show w.heap.size ≤ G + 1; omega) _⟩
theorem CtAt.putF (h : CtAt w w1 G wx n pl al) (h0 : w.heap.size ≤ G) (h1 : w1.heap.size ≤ G) (x : Int) : CtAt w w1 G (wx.setCell ⟨G, 0, none⟩ (.int .i64 x)) x pl al :=
  ⟨h.flt.put x, h.all.other (p := ⟨G, 0, none⟩) (by show G + 1 ≠ G; omega) _, h.bq.setCell (p := ⟨G, 0, none⟩) h1 _, h.b.setCell (p := ⟨G, 0, none⟩) h0 _⟩
theorem CtAt.same (h : CtAt w w1 G wx n pl al) {al' : Nat → Int} (e : ∀ q, q < 8 → al q = al' q) : CtAt w w1 G wx n pl al' := ⟨h.flt, h.all.same e, h.bq, h.b⟩
theorem CtAt.other (h : CtAt w w1 G wx n pl al) {p : Addr} (hp : G + 1 < p.block) (h0 : w.heap.size ≤ G) (h1 : w1.heap.size ≤ G) (x : Value) : CtAt w w1 G (wx.setCell p x) n pl al :=
  ⟨h.flt.other (by omega) x, h.all.other (by omega) x, h.bq.setCell (by omega) x, h.b.setCell (by omega) x⟩
end

theorem allL_getD (l : List Stp) {q : Nat} (h : q < 8) : (allL l).getD q 0 = allC l (q : Int) := by rw [List.getD_eq_getElem?_getD, allL_at l h]; rfl
theorem cells_row {w : World} {g : Nat} {cs : List Nat} (h : VecB w g (cutL cs)) (hl : cs.length = 8) : (List.range 8).map (cellN w g) = cs := by
  refine List.ext_getElem (by simp [hl]) fun i h1 h2 => ?_
  have hi : i < 8 := by simpa using h1
  rw [List.getElem_map, List.getElem_range, cellN_at h hi]
  unfold cutL
  rw [Int.toNat_natCast, List.getD_eq_getElem?_getD, List.getElem?_eq_getElem h2]
  rfl
theorem cut_zero (q : Nat) : cutL (List.replicate 8 0) q = 0 := by
  unfold cutL
  rw [List.getD_eq_getElem?_getD, List.getElem?_replicate]
  split <;> rfl
theorem cut_okL {l : List Stp} {cs : List Nat} (h : ∀ q, q < 8 → cs.getD q 0 ≤ allC l (q : Int)) : CutOk l (cutL cs) := fun p hp => by
  have := h p hp
  unfold cutL
  omega
theorem next_le {l : List Stp} {cs : List Nat} (h8 : cs.length = 8) {p : Nat} (hp : p < 8) (hq : ∀ q, q < p → allC l (q : Int) = cs.getD q 0) (hne : allC l (p : Int) ≠ cs.getD p 0) : ∀ q, cutL (nextC (allL l) cs) q = if q < p then 0 else if q = p then cutL cs q + 1 else cutL cs q :=
  cutL_next (by rw [allL_len, h8]) (fun q hq' => by rw [allL_getD l (by omega)]; exact hq q hq') (by rw [allL_len]; exact hp) (by rw [allL_getD l hp]; exact hne)
theorem next_ok {l : List Stp} {cs : List Nat} (h8 : cs.length = 8) (hle : ∀ q, q < 8 → cs.getD q 0 ≤ allC l (q : Int)) {p : Nat} (hp : p < 8) (hq : ∀ q, q < p → allC l (q : Int) = cs.getD q 0) (hne : allC l (p : Int) ≠ cs.getD p 0) : ∀ q, q < 8 → (nextC (allL l) cs).getD q 0 ≤ allC l (q : Int) := fun q hq8 => by
  have h1 := next_le h8 hp hq hne q
  have h2 := hle q hq8
  have h3 := hle p hp
  unfold cutL at h1
  by_cases e1 : q < p
  · rw [if_pos e1] at h1; omega
  · rw [if_neg e1] at h1
    by_cases e2 : q = p
    · subst e2; rw [if_pos rfl] at h1; omega
    · rw [if_neg e2] at h1; omega
theorem next_ne {l : List Stp} {cs : List Nat} {p : Nat} (hp : p < 8) (hne : allC l (p : Int) ≠ cs.getD p 0) : allL l ≠ cs := fun e => hne (by rw [← allL_getD l hp, e])
theorem next_less {l : List Stp} {cs : List Nat} (h8 : cs.length = 8) (hle : ∀ q, q < 8 → cs.getD q 0 ≤ allC l (q : Int)) (hne : allL l ≠ cs) : prodK l 8 - cntP (allL l) (nextC (allL l) cs) (fun _ => 1) < prodK l 8 - cntP (allL l) cs (fun _ => 1) := by
  have h1 := cntP_next (allL l) cs (fun _ => 1) (by rw [allL_len, h8]) hne
  have h2 := cntP_lt (allL l) cs (fun _ => 1) (by rw [allL_len, h8]) (fun i x y hx hy => by
    have hi : i < 8 := by
      have := (List.getElem?_eq_some_iff.1 hy).1
      omega
    rw [allL_at l hi] at hx
    have := hle i hi
    rw [List.getD_eq_getElem?_getD, hy] at this
    rw [← Option.some.inj hx]; exact this)
  rw [cntB_one, Nat.one_mul] at h2
  have h3 : prodN (allL l) = prodK l 8 := rfl
  rw [h3] at h2
  omega

set_option maxRecDepth 100000 in
set_option maxHeartbeats 4000000 in
theorem cu_walk (l : List Stp) (a : Option Addr) (cap : Nat) (w : World) (h : InC w a cap l) :
    Calls Tryd.prog 8 #[.slice a l.length cap] w fun e w' => e = .returned (.bool true) ∧ Below w.heap.size w w' := by
  have hmax := h.max
  have HIw := hideIt h
  clear h
  by_cases h60 : l.length ≤ 60
  · have HS := hideIt (steps_any l a cap w h60 HIw.out.at_)
    go_enter Tryd.func8, Tryd.ntmps8
    go_wp2_with fail
    refine HS.out.mono ?_
    rintro e w1 ⟨a', cap', rfl, hc', hq', hb1⟩
    have HI1 := hideIt (HIw.out.below hb1)
    have HB1 := hideIt hb1
    have HQ1 := hideIt hq'
    have HC := hideIt (rCheck_any l a' cap' w1 hc' h60 hq' HI1.out.fine)
    clear hb1 hq' HS HI1
    go_wp2_with fail
    refine HC.out.mono ?_
    rintro e w2 ⟨n0, pl0, rfl, hck, hb2⟩
    have HCk := hideIt hck
    unfold fltA
    go_upto_region 7 with fail
    have HX : Hid (CtAt w w1 w2.heap.size ((w2.alloc (.cells #[.int .i64 n0, .int .i64 pl0] 27)).alloc (vecO (fun _ => 0) 44)) n0 pl0 (fun _ => 0)) := by
      have hv := vecB_new (w2.alloc (.cells #[.int .i64 n0, .int .i64 pl0] 27)) (fun _ => 0) 44
      rw [World.size_alloc] at hv
      have hf : FlB (w2.alloc (.cells #[.int .i64 n0, .int .i64 pl0] 27)) w2.heap.size n0 pl0 := ⟨⟨_, _, heap_alloc_new w2 _⟩, by simp, by simp⟩
      exact ⟨hf.below (belA (Below.refl _ _) _), hv, belA (belA hb2 _) _, belA (belA (belJ HB1.out hb2) _) _⟩
    have HG0 : Hid (w.heap.size ≤ w2.heap.size) := (belJ HB1.out hb2).size
    have HG1 : Hid (w1.heap.size ≤ w2.heap.size) := hb2.size
    clear hck hb2 HC
    unfold vecO at HX
    generalize (w2.alloc _).alloc _ = W at HX ⊢
    generalize w2.heap.size = G at HX HG0 HG1 ⊢
    go_upto_block 0 with fail
    go_cut [] (fun wx => ∃ al, CtAt w w1 G wx n0 pl0 al ∧ (n0 = 0 → ∀ q, q < 8 → al q = (allC l (q : Int) : Int)))
    case first =>
      by_cases hn : n0 = 0
      · subst hn
        obtain ⟨hf40, _, rfl⟩ := HCk.out.ok
        go_wp2
        go_loopw [7] (fun v wr => ∃ k : Nat, k ≤ l.length ∧ v = .int .i64 k ∧ CtAt w w1 G wr 0 (-1) (cntFst l k)) (fun v _ => l.length - (intOf v).toNat)
        case atStart => exact ⟨0, Nat.zero_le _, rfl, HX.out⟩
        case round =>
          clear HX
          obtain ⟨k, hk, rfl, hx⟩ := hrel
          have HX := hideIt hx
          have e0 := hx.flt.c0
          by_cases hkl : k < l.length
          · obtain ⟨b, off, rfl, hlt, hst⟩ : ∃ b off, a' = some ⟨b, off, none⟩ ∧ b < w1.heap.size ∧ StpsAt w1 b off l := by
              rcases HQ1.out with h | h
              · subst h; simp at hkl
              · exact h
            have x0 := ((hst k hkl).below hlt hx.bq).1
            rw [← stZ_at hkl] at x0
            have hpr := HCk.out.clOk.proc k hkl
            obtain ⟨p, hp⟩ : ∃ p : Nat, (stZ l k).p = (p : Int) := ⟨(stZ l k).p.toNat, by omega⟩
            have hp8 : p < 8 := by omega
            have hp8' : (p : Int) < 8 := by omega
            have HN := hideIt (cntFst_succ l k)
            rw [hp] at x0
            have hnum := cntFst_num l k p
            obtain ⟨V, HV2⟩ : ∃ V, Hid (cntFst l k = V) := ⟨_, hideIt rfl⟩
            rw [HV2.out] at HX HN hnum
            have c0 := HX.out.all.at' hp8
            have z0 := HX.out.all.fz p
            have R1 : Hid (CtAt w w1 G (wr.setCell ⟨G + 1, p, none⟩ (.int .i64 (V p + 1))) 0 (-1) (cntFst l (k + 1))) := (HX.out.putA HG0.out HG1.out hp8 (V p + 1)).same fun q _ => by
              rw [HN.out q, hp]
              by_cases e : q = p
              · subst e; simp
              · have : ¬ ((p : Int) = (q : Int)) := by omega
                simp [e, this]
            clear hst hx hpr HQ1
            go_wp2
            go_roundw
            case rel => exact ⟨k + 1, by omega, by go_num, R1.out⟩
            case measure => simp [intOf]; omega
          · obtain rfl : k = l.length := by omega
            clear hx
            go_wp2
            go_meet
            exact ⟨_, HX.out, fun _ q _ => cntFst_all l q⟩
      · have hn' : (n0 == 0) = false := by simp [hn]
        go_wp2
        go_loopw [7] (fun v wr => v = .int .i64 0 ∧ wr = W) (fun _ _ => 0)
        case atStart => exact ⟨rfl, rfl⟩
        case round =>
          obtain ⟨rfl, rfl⟩ := hrel
          have e0 := HX.out.flt.c0
          by_cases hl0 : 0 < l.length
          · go_wp2
            go_meet
            exact ⟨_, HX.out, fun h => absurd h hn⟩
          · go_wp2
            go_meet
            exact ⟨_, HX.out, fun h => absurd h hn⟩
    case rest =>
      clear HX
      obtain ⟨al, hx, hal⟩ := hcut
      have HX := hideIt hx
      have HAl := hideIt hal
      clear hx hal
      go_upto_block 2 with fail
      go_cut [6] (fun x wx => ∃ (n pl : Int) (m : Nat), x = .int .i64 (m : Int) ∧ CkN l n pl ∧ CtAt w w1 G wx n pl al ∧ (n = 0 → m = prodK l 8 ∧ prodK l 8 ≤ 10000 ∧ CkC l 0 (-1) ∧ ∀ q, q < 8 → al q = (allC l (q : Int) : Int)))
      case first =>
        by_cases hn : n0 = 0
        · subst hn
          obtain ⟨hf40, _, rfl⟩ := HCk.out.ok
          go_wp2
          go_loopw [6, 8] (fun x v wr => ∃ (k : Nat) (n : Int), k ≤ 8 ∧ x = .int .i64 (prodK l k : Nat) ∧ v = .int .i64 k ∧ CtAt w w1 G wr n (-1) al ∧ ((n = 0 ∧ prodK l k ≤ 10000) ∨ (n = 4 ∧ ¬ prodK l k ≤ 10000))) (fun _ v _ => 8 - (intOf v).toNat)
          case atStart => exact ⟨0, 0, by omega, rfl, rfl, HX.out, .inl ⟨rfl, by rw [prodK_zero]; omega⟩⟩
          case round =>
            clear HX
            obtain ⟨k, n, hk, rfl, rfl, hx, hnn⟩ := hrel
            have HX := hideIt hx
            clear hx
            rcases hnn with ⟨rfl, hle⟩ | ⟨rfl, hbig⟩
            · have e0 := HX.out.flt.c0
              by_cases hk8 : k < 8
              · have hk8' : (k : Int) < 8 := by omega
                have c0 := HX.out.all.at' hk8
                rw [HAl.out trivial k hk8] at c0
                have HPs := hideIt (prodK_succ l k)
                have hall := cnt_len l (fun _ => true) (k : Int)
                obtain ⟨m, hm⟩ : ∃ m : Nat, allC l (k : Int) = m := ⟨_, rfl⟩
                have hm40 : m ≤ 40 := by rw [← hm]; exact Nat.le_trans hall hf40
                rw [hm] at c0 HPs
                have hPb := prodK_big hf40 (k := k + 1) (by omega)
                have hwr : wrap64 ((prodK l k : Int) * ((m : Int) + 1)) = (prodK l (k + 1) : Nat) := by
                  have h2 : (prodK l k : Int) * ((m : Int) + 1) = (prodK l (k + 1) : Nat) := by rw [HPs.out]; simp
                  rw [h2]
                  unfold wrap64
                  omega
                clear hall hm
                by_cases hle' : prodK l (k + 1) ≤ 10000
                · have hle2 : (prodK l (k + 1) : Int) ≤ 10000 := by omega
                  have R : Hid (∃ (k' : Nat) (n : Int), k' ≤ 8 ∧ Value.int .i64 (prodK l (k + 1) : Nat) = .int .i64 (prodK l k' : Nat) ∧ Value.int .i64 ((k : Int) + 1) = .int .i64 k' ∧ CtAt w w1 G wr n (-1) al ∧ ((n = 0 ∧ prodK l k' ≤ 10000) ∨ (n = 4 ∧ ¬ prodK l k' ≤ 10000))) := ⟨k + 1, 0, by omega, rfl, by go_num, HX.out, .inl ⟨rfl, hle'⟩⟩
                  generalize prodK l (k + 1) = P1 at hwr hle2 R
                  generalize prodK l k = P0 at hwr ⊢
                  clear hle hle'
                  go_wp2
                  go_roundw
                  case rel => rw [hwr]; exact R.out
                  case measure => simp [intOf]; omega
                · have hle2 : (10000 : Int) < (prodK l (k + 1) : Int) := by omega
                  have z0 := HX.out.flt.fz 0
                  have HX2 := hideIt (HX.out.putF HG0.out HG1.out 4)
                  have R : Hid (∃ (k' : Nat) (n : Int), k' ≤ 8 ∧ Value.int .i64 (prodK l (k + 1) : Nat) = .int .i64 (prodK l k' : Nat) ∧ Value.int .i64 ((k : Int) + 1) = .int .i64 k' ∧ CtAt w w1 G (wr.setCell ⟨G, 0, none⟩ (.int .i64 4)) n (-1) al ∧ ((n = 0 ∧ prodK l k' ≤ 10000) ∨ (n = 4 ∧ ¬ prodK l k' ≤ 10000))) := ⟨k + 1, 4, by omega, rfl, by go_num, HX2.out, .inr ⟨rfl, hle'⟩⟩
                  generalize prodK l (k + 1) = P1 at hwr hle2 R
                  generalize prodK l k = P0 at hwr ⊢
                  clear hle hle'
                  go_wp2
                  go_roundw
                  case rel => rw [hwr]; exact R.out
                  case measure => simp [intOf]; omega
              · obtain rfl : k = 8 := by omega
                go_wp2
                go_meet
                exact ⟨0, -1, prodK l 8, rfl, ⟨0, -1, HCk.out, .inr ⟨rfl, .inl ⟨hle, rfl, rfl⟩⟩⟩, HX.out, fun _ => ⟨rfl, hle, HCk.out, HAl.out trivial⟩⟩
            · have e0 := HX.out.flt.c0
              have HBg : Hid (¬ prodK l 8 ≤ 10000) := fun h => hbig (Nat.le_trans (prodK_mono l hk) h)
              have HPk : Hid (∃ m : Nat, prodK l k = m) := ⟨_, rfl⟩
              clear hbig
              generalize prodK l k = P0
              by_cases hk8 : k < 8
              · have hk8' : (k : Int) < 8 := by omega
                go_wp2
                go_meet
                exact ⟨4, -1, P0, rfl, ⟨0, -1, HCk.out, .inr ⟨rfl, .inr ⟨HBg.out, rfl, rfl⟩⟩⟩, HX.out, fun h => absurd h (by decide)⟩
              · obtain rfl : k = 8 := by omega
                go_wp2
                go_meet
                exact ⟨4, -1, P0, rfl, ⟨0, -1, HCk.out, .inr ⟨rfl, .inr ⟨HBg.out, rfl, rfl⟩⟩⟩, HX.out, fun h => absurd h (by decide)⟩
        · have hn' : (n0 == 0) = false := by simp [hn]
          go_wp2
          go_loopw [6, 8] (fun x v wr => x = .int .i64 1 ∧ v = .int .i64 0 ∧ wr = wc) (fun _ _ _ => 0)
          case atStart => exact ⟨rfl, rfl, rfl⟩
          case round =>
            obtain ⟨rfl, rfl, rfl⟩ := hrel
            have e0 := HX.out.flt.c0
            go_wp2
            go_meet
            exact ⟨n0, pl0, 1, rfl, ⟨n0, pl0, HCk.out, .inl ⟨hn, rfl, rfl⟩⟩, HX.out, fun h => absurd h hn⟩
      case rest =>
        rename World => wd
        clear HX HAl
        obtain ⟨n, pl, m, rfl, hckn, hx, hok⟩ := hcut
        have HX := hideIt hx
        have HN := hideIt hckn
        have HOk := hideIt hok
        have e0 := hx.flt.c0
        clear hckn hx hok
        by_cases hn : n = 0
        · subst hn
          obtain ⟨rfl, hle, hck, hal⟩ := HOk.out rfl
          have HAl := hideIt hal
          have HCk0 := hideIt hck
          clear hal hck HOk HCk
          by_cases h600 : prodK l 8 ≤ 600
          · have h600' : (prodK l 8 : Int) ≤ 600 := by omega
            have HX2 : Hid (CtAt w w1 G (wd.alloc (vecO (fun _ => 0) 44)) 0 pl al) := HX.out.below (belA (Below.refl _ _) _)
            have HC2 : Hid (VecB (wd.alloc (vecO (fun _ => 0) 44)) wd.heap.size (fun _ => 0)) := vecB_new wd _ 44
            have HGc : Hid (G + 1 < wd.heap.size) := HX.out.all.lt
            unfold vecO at HX2 HC2
            clear HX
            have HP0 : Hid (cntP (allL l) (List.replicate 8 0) (stdN l) = 0) := by
              have := cntP_zero (allL l) (stdN l)
              rw [allL_len] at this
              exact this
            have HAa : Hid (∀ q, q < 8 → al q = (allC l (q : Int) : Int)) := HAl.out
            clear HAl
            have H40 : Hid (l.length ≤ 40) := HCk0.out.ok.1
            obtain ⟨P8, HP8⟩ : ∃ P8, Hid (prodK l 8 = P8) := ⟨_, hideIt rfl⟩
            rw [HP8.out] at h600' ⊢
            clear hle h600
            go_upto_region 21 with fail
            generalize wd.alloc _ = W3 at HX2 HC2 ⊢
            generalize wd.heap.size = Cb at HC2 HGc ⊢
            go_loopw [9] (fun x wr => ∃ cs : List Nat, cs.length = 8 ∧ (∀ q, q < 8 → cs.getD q 0 ≤ allC l (q : Int)) ∧ x = .int .i64 (cntP (allL l) cs (stdN l) : Nat) ∧ VecB wr Cb (cutL cs) ∧ CtAt w w1 G wr 0 pl al) (fun _ wr => prodK l 8 - cntP (allL l) ((List.range 8).map (cellN wr Cb)) (fun _ => 1))
            case atStart => exact ⟨List.replicate 8 0, by simp, fun q _ => by rw [List.getD_eq_getElem?_getD, List.getElem?_replicate]; split <;> simp, by rw [HP0.out]; rfl, HC2.out.same fun q _ => (cut_zero q).symm, HX2.out⟩
            case round =>
              clear HX2 HC2 HP0
              obtain ⟨cs, h8, hle, rfl, hv, hx⟩ := hrel
              have H8 := hideIt h8
              have HLe := hideIt hle
              have HV := hideIt hv
              have H4 := hideIt (cells_row hv h8)
              have HX := hideIt hx
              have e0 := hx.flt.c0
              obtain ⟨y0, y1, y2, y3, y4, y5, y6, y7⟩ := hv.eight
              have HRs := hideIt (rSteady_any l HCk0.out.clOk a' cap' (cutL cs) wr (HQ1.out.below hx.bq))
              have HCp : Hid (cntP (allL l) cs (stdN l) + stdN l cs ≤ 600) := by
                have h2 := cntP_lt (allL l) cs (stdN l) (by rw [allL_len, h8]) (fun i x y hx hy => by
                  have hi : i < 8 := by
                    have := (List.getElem?_eq_some_iff.1 hy).1
                    omega
                  rw [allL_at l hi] at hx
                  have := hle i hi
                  rw [List.getD_eq_getElem?_getD, hy] at this
                  rw [← Option.some.inj hx]; exact this)
                rw [← cntA_cntB] at h2
                have h3 := cutsN_le l
                have h4 : cutsN l = cntA (allL l) (stdN l) := rfl
                rw [h4] at h3
                rw [HP8.out] at h3
                show _ ≤ _
                omega
              unfold vecA at HRs
              clear h8 hle hv hx
              obtain ⟨N0, HN0⟩ : ∃ N0 : Nat, Hid (cntP (allL l) cs (stdN l) = N0) := ⟨_, hideIt rfl⟩
              rw [HN0.out] at HCp ⊢
              go_wp2_with fail
              refine HRs.out.mono ?_
              rintro e w4 ⟨b, rfl, hb, hb4⟩
              have HSb : Hid (stdN l cs = if b then 1 else 0) := by
                have hst := steady_cut HCk0.out.clOk.proc (cut_okL HLe.out)
                show stdN l cs = _
                unfold stdN
                have : stdB l (cutL cs) = b := by
                  rw [Bool.eq_iff_iff, stdB_iff, hb, hst]
                rw [this]
              have HV4 := hideIt (HV.out.below hb4 HV.out.lt)
              have HX4 := hideIt (HX.out.below hb4)
              clear hb hb4 HRs HV HX y0 y1 y2 y3 y4 y5 y6 y7 e0
              go_upto_if 71 with fail
              go_cut [9] (fun x wx => x = .int .i64 ((N0 + stdN l cs : Nat) : Int) ∧ wx = w4)
              case first =>
                have hN0 : N0 ≤ 600 := by have := HCp.out; omega
                cases b
                · have e1 : stdN l cs = 0 := HSb.out
                  go_wp2
                  go_meet
                  exact ⟨by rw [e1]; rfl, rfl⟩
                · have e1 : stdN l cs = 1 := HSb.out
                  go_wp2
                  go_meet
                  exact ⟨by rw [e1]; simp, rfl⟩
              case rest =>
                obtain ⟨rfl, rfl⟩ := hcut
                go_wp2
                go_loopw [11] (fun v wz => ∃ p : Nat, p ≤ 8 ∧ v = .int .i64 p ∧ (∀ q, q < p → allC l (q : Int) = cs.getD q 0) ∧ VecB wz Cb (fun q => if q < p then 0 else cutL cs q) ∧ CtAt w w1 G wz 0 pl al) (fun v _ => 8 - (intOf v).toNat)
                case atStart => exact ⟨0, by omega, rfl, fun q hq => absurd hq (by omega), HV4.out.same fun q _ => by simp, HX4.out⟩
                case round =>
                  clear HV4 HX4
                  obtain ⟨p, hp, rfl, hq, hv, hx⟩ := hrel
                  have HQp := hideIt hq
                  have HV := hideIt hv
                  have HX := hideIt hx
                  clear hq hv hx
                  by_cases hp8 : p < 8
                  · have hp8' : (p : Int) < 8 := by omega
                    have c0 := HV.out.at' hp8
                    rw [if_neg (Nat.lt_irrefl p)] at c0
                    have a0 := HX.out.all.at' hp8
                    rw [HAa.out p hp8] at a0
                    have HD : Hid (∀ n, VecB (wr.drewN n) Cb (fun q => if q < p then 0 else cutL cs q) ∧ CtAt w w1 G (wr.drewN n) 0 pl al) := fun n => ⟨HV.out.block rfl, HX.out.below (below_drewN (Below.refl _ _) _)⟩
                    have hcl := HLe.out p hp8
                    have hall : allC l (p : Int) ≤ l.length := cnt_len l (fun _ => true) (p : Int)
                    have H40' := H40.out
                    obtain ⟨cp, hcp⟩ : ∃ cp : Nat, cs.getD p 0 = cp := ⟨_, rfl⟩
                    obtain ⟨ap, hap⟩ : ∃ ap : Nat, allC l (p : Int) = ap := ⟨_, rfl⟩
                    rw [show cutL cs p = (cp : Int) by unfold cutL; rw [hcp]] at c0
                    rw [hap] at a0 hcl hall
                    rw [hcp] at hcl
                    have HCp' := hideIt hcp
                    have HAp := hideIt hap
                    clear hcp hap
                    go_upto_region 25 with fail
                    by_cases heq : cp = ap
                    · have heq' : ((cp : Int) == (ap : Int)) = true := by simp [heq]
                      go_quiet (fail)
                      have HDq := hideIt (HD.out nq)
                      clear HD c0 a0
                      generalize wr.drewN nq = wq at HDq ⊢
                      have y0 := HDq.out.1.at' hp8
                      rw [if_neg (Nat.lt_irrefl p)] at y0
                      have z0 := HDq.out.1.fz p
                      have R1 : Hid (VecB (wq.setCell ⟨Cb, p, none⟩ (.int .i64 0)) Cb (fun q => if q < p + 1 then 0 else cutL cs q)) := (HDq.out.1.put hp8 0).same fun q _ => by
                        by_cases e : q = p
                        · subst e; simp
                        · have : q < p + 1 ↔ q < p := by omega
                          simp [e, this]
                      have R2 : Hid (CtAt w w1 G (wq.setCell ⟨Cb, p, none⟩ (.int .i64 0)) 0 pl al) := HDq.out.2.other (p := ⟨Cb, p, none⟩) HGc.out HG0.out HG1.out _
                      have R3 : Hid (∀ q, q < p + 1 → allC l (q : Int) = cs.getD q 0) := fun q hq => by
                        by_cases e : q = p
                        · subst e; rw [HAp.out, HCp'.out, heq]
                        · exact HQp.out q (by omega)
                      clear heq heq' hcl
                      go_wp2
                      go_roundw
                      case rel => exact ⟨p + 1, by omega, by go_num, R3.out, R1.out, R2.out⟩
                      case measure => simp [intOf]; omega
                    · have heq' : ((cp : Int) == (ap : Int)) = false := by simp; omega
                      go_quiet (fail)
                      have HDq := hideIt (HD.out nq)
                      clear HD c0 a0
                      generalize wr.drewN nq = wq at HDq ⊢
                      have HNe : Hid (allC l (p : Int) ≠ cs.getD p 0) := fun e => heq (by rw [HAp.out, HCp'.out] at e; exact e.symm)
                      have y0 := HDq.out.1.at' hp8
                      rw [if_neg (Nat.lt_irrefl p), show cutL cs p = (cp : Int) by unfold cutL; rw [HCp'.out]] at y0
                      have z0 := HDq.out.1.fz p
                      have R1 : Hid (VecB (wq.setCell ⟨Cb, p, none⟩ (.int .i64 ((cp : Int) + 1))) Cb (cutL (nextC (allL l) cs))) := (HDq.out.1.put hp8 ((cp : Int) + 1)).same fun q _ => by
                        rw [next_le H8.out hp8 HQp.out HNe.out q]
                        by_cases e : q = p
                        · subst e; simp [cutL]; rw [← HCp'.out]; simp
                        · simp [e]
                      have R2 : Hid (CtAt w w1 G (wq.setCell ⟨Cb, p, none⟩ (.int .i64 ((cp : Int) + 1))) 0 pl al) := HDq.out.2.other (p := ⟨Cb, p, none⟩) HGc.out HG0.out HG1.out _
                      have R3 : Hid ((nextC (allL l) cs).length = 8) := (nextC_len (allL l) cs (by rw [allL_len, H8.out])).trans (allL_len l)
                      have R4 := hideIt (next_ok H8.out HLe.out hp8 HQp.out HNe.out)
                      have R5 : Hid (N0 + stdN l cs = cntP (allL l) (nextC (allL l) cs) (stdN l)) := by
                        show _ = _
                        rw [cntP_next (allL l) cs (stdN l) (by rw [allL_len, H8.out]) (next_ne hp8 HNe.out), HN0.out]
                      have R6 := hideIt (cells_row R1.out R3.out)
                      have R7 := hideIt (next_less H8.out HLe.out (next_ne hp8 HNe.out))
                      clear heq heq'
                      go_wp2
                      go_roundw
                      case rel => exact ⟨nextC (allL l) cs, R3.out, R4.out, by rw [R5.out], R1.out, R2.out⟩
                      case measure =>
                        rw [H4.out, R6.out]
                        exact R7.out
                  · obtain rfl : p = 8 := by omega
                    have HAll : Hid (N0 + stdN l cs = cutsN l) := by
                      have e := rows_eq (al := allL l) (cs := cs) (by rw [allL_len, H8.out]) (fun q hq => by rw [allL_len] at hq; rw [allL_getD l hq]; exact HQp.out q hq)
                      have h1 := cntP_last (allL l) (stdN l)
                      rw [← cntA_cntB] at h1
                      show _ = _
                      rw [← HN0.out, ← e]
                      exact h1
                    have HD : Hid (∀ n, CtAt w w1 G (wr.drewN n) 0 pl al) := fun n => HX.out.below (below_drewN (Below.refl _ _) _)
                    rw [HAll.out]
                    go_upto_region 25 with fail
                    go_quiet (fail)
                    have HX6 := hideIt (HD.out nq)
                    clear HD HX HV
                    generalize wr.drewN nq = wq at HX6 ⊢
                    have HCu := hideIt (clockCuts_any l a cap wq hmax (HIw.out.below HX6.out.b).at_)
                    go_wp2_with fail
                    refine HCu.out.mono ?_
                    rintro e w5 ⟨k5, err, n5, pl5, rfl, hc5, her5, hk5, hb5⟩
                    obtain ⟨rfl, rfl⟩ := hc5.one HN.out
                    rw [if_pos rfl] at hk5
                    subst hk5
                    have HX5 := hideIt (HX6.out.below hb5)
                    have g0 := HX5.out.flt.c0
                    have g1 := HX5.out.flt.c1
                    have HAt := hideIt (at_told err 0 pl5 w5 her5 (HIw.out.below HX5.out.b).typ)
                    unfold fltA at HAt
                    clear hc5 her5 hb5 HCu
                    go_wp2_with fail
                    refine HAt.out.mono ?_
                    rintro e w6 ⟨rfl, hb6⟩
                    go_wp2
                    go_ret
                    exact ⟨rfl, belJ HX5.out.b hb6⟩
          · have h600' : (600 : Int) < prodK l 8 := by omega
            generalize prodK l 8 = P8 at h600' ⊢
            go_wp2
            go_ret
            exact ⟨rfl, HX.out.b⟩
        · have hn' : (n == 0) = false := by simp [hn]
          have HX2 : Hid (CtAt w w1 G (wd.alloc (vecO (fun _ => 0) 44)) n pl al) := HX.out.below (belA (Below.refl _ _) _)
          unfold vecO at HX2
          clear HX
          go_upto_region 21 with fail
          generalize wd.alloc _ = W3 at HX2 ⊢
          generalize wd.heap.size = Cb
          go_loopw [9] (fun x wr => x = .int .i64 0 ∧ wr = W3) (fun _ _ => 0)
          case atStart => exact ⟨rfl, rfl⟩
          case round =>
            obtain ⟨rfl, rfl⟩ := hrel
            have e0 := HX2.out.flt.c0
            have HCu := hideIt (clockCuts_any l a cap wr hmax (HIw.out.below HX2.out.b).at_)
            go_wp2_with fail
            refine HCu.out.mono ?_
            rintro e w5 ⟨k5, err, n5, pl5, rfl, hc5, her5, hk5, hb5⟩
            obtain ⟨rfl, rfl⟩ := hc5.one HN.out
            rw [if_neg hn] at hk5
            subst hk5
            have HX5 := hideIt (HX2.out.below hb5)
            have g0 := HX5.out.flt.c0
            have g1 := HX5.out.flt.c1
            have HAt := hideIt (at_told err n5 pl5 w5 her5 (HIw.out.below HX5.out.b).typ)
            unfold fltA at HAt
            clear hc5 her5 hb5 HCu
            go_wp2_with fail
            refine HAt.out.mono ?_
            rintro e w6 ⟨rfl, hb6⟩
            go_wp2
            go_ret
            exact ⟨rfl, belJ HX5.out.b hb6⟩
  · go_enter Tryd.func8, Tryd.ntmps8
    go_wp2
    go_ret
    exact ⟨rfl, Below.refl _ _⟩
end Go.Proofs.YtmonbkoelehdlaaDoor
