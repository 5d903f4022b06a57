/-
  Package clock's pathsOf, walked.
-/
import Derived.Test.YtmonbkoelehdlaaDoorPaM
namespace Go.Proofs.YtmonbkoelehdlaaDoor
open Go.RowKit

def nil8 : Nat → Value := fun _ => .slice none 0 0
/-- A block of eight one-cell values. -/
theorem load78 {w : World} {g : Nat} {vs : Nat → Value} (h : ∀ p, p < 8 → w.cell? ⟨g, p, none⟩ = some (vs p)) : (loadVar 78 ⟨g, 0, none⟩).run Tryd.prog w = .ok (pthA vs) w :=
  run_loadVar_mid w g 0 78 [vs 0, vs 1, vs 2, vs 3, vs 4, vs 5, vs 6, vs 7] _ (fun j u hu => by
    have hj : j < 8 := (List.getElem?_eq_some_iff.1 hu).1
    have := all8 (P := fun j => [vs 0, vs 1, vs 2, vs 3, vs 4, vs 5, vs 6, vs 7][j]? = some (vs j)) rfl rfl rfl rfl rfl rfl rfl rfl j hj
    rw [this] at hu
    rw [← hu, Nat.zero_add]; exact h j hj) Tryd.underlying78 rfl (by kernel_rfl)
theorem results_two {fn : Func} {p u : Tmp} {ty : TypeId} (h : fn.results = #[.cell p ty, .tmp u]) (tmps : Array Value) (w : World) (g : Nat) (v : Value)
    (hp : tmps.getD p undef = .pointer (some ⟨g, 0, none⟩)) (hl : (loadVar ty ⟨g, 0, none⟩).run Tryd.prog w = .ok v w) : (results fn tmps).run Tryd.prog w = .ok (.tuple #[v, tmps.getD u undef]) w := by
  rw [results_cell_tmp h]
  simp only [hp, asAddr, Sem.run_pure, Result.andThen_ok, hl]
/-- Eight cells of one's own. -/
structure RoomB (w : World) (g : Nat) (vs : Nat → Value) : Prop where
  blk : ∃ cur t, w.heap[g]? = some (.cells cur t (0, 0))
  at_ : ∀ p, p < 8 → w.cell? ⟨g, p, none⟩ = some (vs p)
theorem RoomB.lt {w : World} {g : Nat} {vs : Nat → Value} (h : RoomB w g vs) : g < w.heap.size := by
  obtain ⟨cur, t, hc⟩ := h.blk
  exact lt_of_heap hc
theorem RoomB.fz {w : World} {g : Nat} {vs : Nat → Value} (h : RoomB w g vs) (i : Nat) : w.frozen? ⟨g, i, none⟩ = false := by
  obtain ⟨cur, t, hc⟩ := h.blk
  exact frozen_of_row w g i cur t hc
theorem RoomB.block {w w' : World} {g : Nat} {vs : Nat → Value} (h : RoomB w g vs) (hb : w'.heap[g]? = w.heap[g]?) : RoomB w' g vs := by
  obtain ⟨cur, t, hc⟩ := h.blk
  exact ⟨⟨cur, t, hb.trans hc⟩, fun k hk => (World.cell?_of_block (a := ⟨g, k, none⟩) hb).trans (h.at_ k hk)⟩
theorem RoomB.below {B : Nat} {w w' : World} {g : Nat} {vs : Nat → Value} (h : RoomB w g vs) (hb : Below B w w') (hg : g < B) : RoomB w' g vs := h.block (hb.block g hg)
theorem RoomB.put {w : World} {g : Nat} {vs : Nat → Value} (h : RoomB w g vs) {m : Nat} (hm : m < 8) (x : Value) : RoomB (w.setCell ⟨g, m, none⟩ x) g (setT vs m x) := by
  obtain ⟨cur, t, hc⟩ := h.blk
  obtain ⟨cur', hc', _⟩ := heap_setCell hc m x
  refine ⟨⟨cur', t, hc'⟩, fun k hk => ?_⟩
  unfold setT
  by_cases e : k = m
  · subst e
    simp only [if_true]
    exact World.cell?_setCell_same _ _ _ (h.at_ k hk)
  · simp only [if_neg e]
    rw [World.cell?_setCell_other _ _ _ _ (offN (Ne.symm e))]
    exact h.at_ k hk
def pthCs (us : Nat → Value) : List Value := [us 0, us 1, us 2, us 3, us 4, us 5, us 6, us 7]
theorem RoomB.store {w : World} {g : Nat} {vs : Nat → Value} (h : RoomB w g vs) (us : Nat → Value) : RoomB (w.setCells g 0 (pthCs us)) g us := by
  have := ((((((((h.put (m := 0) (by omega) (us 0)).put (m := 1) (by omega) (us 1)).put (m := 2) (by omega) (us 2)).put (m := 3) (by omega) (us 3)).put (m := 4) (by omega) (us 4)).put (m := 5) (by omega) (us 5)).put (m := 6) (by omega) (us 6)).put (m := 7) (by omega) (us 7))
  exact ⟨this.blk, fun p hp => (this.at_ p hp).trans (all8 (P := fun p => some (setT (setT (setT (setT (setT (setT (setT (setT vs 0 (us 0)) 1 (us 1)) 2 (us 2)) 3 (us 3)) 4 (us 4)) 5 (us 5)) 6 (us 6)) 7 (us 7) p) = some (us p)) rfl rfl rfl rfl rfl rfl rfl rfl p hp)⟩
theorem roomB_new (w : World) (vs : Nat → Value) (t : Nat) : RoomB (w.alloc (.cells #[vs 0, vs 1, vs 2, vs 3, vs 4, vs 5, vs 6, vs 7] t)) w.heap.size vs :=
  ⟨⟨_, t, heap_alloc_new w _⟩, fun p hp => by
    rw [cell_of_row _ w.heap.size p _ t _ (heap_alloc_new w _)]
    exact all8 (P := fun p => (#[vs 0, vs 1, vs 2, vs 3, vs 4, vs 5, vs 6, vs 7])[p]? = some (vs p)) rfl rfl rfl rfl rfl rfl rfl rfl p hp⟩
theorem RoomB.eight {w : World} {g : Nat} {vs : Nat → Value} (h : RoomB w g vs) : w.cell? ⟨g, 0, none⟩ = some (vs 0) ∧ w.cell? ⟨g, 1, none⟩ = some (vs 1) ∧ w.cell? ⟨g, 2, none⟩ = some (vs 2) ∧ w.cell? ⟨g, 3, none⟩ = some (vs 3) ∧ w.cell? ⟨g, 4, none⟩ = some (vs 4) ∧ w.cell? ⟨g, 5, none⟩ = some (vs 5) ∧ w.cell? ⟨g, 6, none⟩ = some (vs 6) ∧ w.cell? ⟨g, 7, none⟩ = some (vs 7) :=
  ⟨h.at_ 0 (by omega), h.at_ 1 (by omega), h.at_ 2 (by omega), h.at_ 3 (by omega), h.at_ 4 (by omega), h.at_ 5 (by omega), h.at_ 6 (by omega), h.at_ 7 (by omega)⟩
theorem TabC.room {w : World} {T : Nat} {ty : TypeId} {vs : Nat → Value} (h : TabC w T ty 8 vs) : RoomB w T vs := by
  obtain ⟨cur, hc, _⟩ := id h
  exact ⟨⟨cur, ty, hc⟩, fun p hp => h.cell hp⟩

/-- Eight slices. -/
def slV (A : Nat → Option Addr) (M C : Nat → Nat) : Nat → Value := fun p => .slice (A p) (M p) (C p)
theorem slV_of {vs : Nat → Value} (h : ∀ p, p < 8 → ∃ a m c, vs p = .slice a m c) : ∃ A M C, ∀ p, p < 8 → vs p = slV A M C p :=
  ⟨fun p => match vs p with | .slice a _ _ => a | _ => none, fun p => match vs p with | .slice _ m _ => m | _ => 0, fun p => match vs p with | .slice _ _ c => c | _ => 0, fun p hp => by
    obtain ⟨a, m, c, e⟩ := h p hp
    unfold slV
    simp only [e]⟩
theorem KnRead.same {l : List Stp} {w : World} {vs us : Nat → Value} (h : KnRead l w vs) (e : ∀ p, p < 8 → vs p = us p) : KnRead l w us := fun p hp => by rw [← e p hp]; exact h p hp
/-- What pathsOf tells. -/
def PoTold (l : List Stp) (w : World) (e : Ending) (w' : World) : Prop :=
  ∃ A M C err n pl, e = .returned (.tuple #[pthA (slV A M C), err]) ∧ CkC l n pl ∧ ErrAt w' err n pl ∧ (n = 0 → KnRead l w' (slV A M C)) ∧ Below w.heap.size w w'

/-- The first rows are laid. -/
def inL (p k : Nat) : List (Nat → Int) := if p < k then [fun _ => 0] else []
def InTab (base T : Nat) (w : World) (k : Nat) (vs : Nat → Value) : Prop := TabN w base T 78 45 8 8 vs (fun p => vecsC (inL p k)) (fun p => (inL p k).length)

set_option maxRecDepth 100000 in
set_option maxHeartbeats 4000000 in
theorem pathsOf_any (l : List Stp) (a : Option Addr) (cap : Nat) (w : World) (hmax : l.length ≤ maxLen) (hl : StpsQ w a l) :
    Calls Tryd.prog 38 #[.slice a l.length cap] w fun e w' => PoTold l w e w' := by
  have HR0 := hideIt (roomB_new w nil8 78)
  have HB0 : Hid (Below w.heap.size w (w.alloc (.cells #[nil8 0, nil8 1, nil8 2, nil8 3, nil8 4, nil8 5, nil8 6, nil8 7] 78))) := belA (Below.refl _ _) _
  have HL := hideIt hl
  have HC := hideIt (vectors_any l a cap (w.alloc (.cells #[nil8 0, nil8 1, nil8 2, nil8 3, nil8 4, nil8 5, nil8 6, nil8 7] 78)) hmax (hl.below HB0.out))
  clear hl
  unfold nil8 at HC HR0 HB0
  go_enter Tryd.func38, Tryd.ntmps38
  go_wp2_with fail
  refine HC.out.mono ?_
  rintro e w1 ⟨v, err, n, pl, rfl, hck, her, hno, hok, hb1⟩
  have HCk := hideIt hck
  have HR1 := hideIt (HR0.out.below hb1 HR0.out.lt)
  have HB1 := hideIt (belJ HB0.out hb1)
  have HE := hideIt her
  clear hck hb1 HC HB0 HR0
  by_cases hn : n = 0
  · subst hn
    obtain ⟨rfl, rfl⟩ := her.nil
    obtain ⟨gv, rfl, _, hv⟩ := hok rfl
    have hok2 := HCk.out.ok
    have h40 := hok2.1
    have HFine := hideIt hok2.2.1
    have HV0 := hideIt hv
    have hgv := hv.lt
    have HT0 : Hid (InTab w1.heap.size w1.heap.size (w1.alloc (.cells #[.slice none 0 0, .slice none 0 0, .slice none 0 0, .slice none 0 0, .slice none 0 0, .slice none 0 0, .slice none 0 0, .slice none 0 0] 78)) 0 nil8) :=
      ⟨⟨_, heap_alloc_new w1 _, rfl, fun i hi => all8 (P := fun p => (#[Value.slice none 0 0, .slice none 0 0, .slice none 0 0, .slice none 0 0, .slice none 0 0, .slice none 0 0, .slice none 0 0, .slice none 0 0])[p]? = some (nil8 p)) rfl rfl rfl rfl rfl rfl rfl rfl i hi⟩, Nat.le_refl _, fun q _ => World.ownsRow_nil _ _ _ _, fun q r _ _ _ b hb => (by cases hb), fun q _ h => (by cases h)⟩
    have HBx : Hid (Below w1.heap.size w1 (w1.alloc (.cells #[.slice none 0 0, .slice none 0 0, .slice none 0 0, .slice none 0 0, .slice none 0 0, .slice none 0 0, .slice none 0 0, .slice none 0 0] 78))) := belA (Below.refl _ _) _
    clear her hno hok hv hok2 HE
    go_wp2
    generalize w1.alloc (.cells #[.slice none 0 0, .slice none 0 0, .slice none 0 0, .slice none 0 0, .slice none 0 0, .slice none 0 0, .slice none 0 0, .slice none 0 0] 78) = W2 at HT0 HBx ⊢
    go_loopw [19] (fun i wr => ∃ (k : Nat) (vs : Nat → Value), k ≤ 8 ∧ i = .int .i64 k ∧ InTab w1.heap.size w1.heap.size wr k vs ∧ (∀ q, k ≤ q → vs q = .slice none 0 0) ∧ Below w1.heap.size w1 wr) (fun i _ => 8 - (intOf i).toNat)
    case atStart => exact ⟨0, _, Nat.zero_le _, rfl, HT0.out, fun _ _ => rfl, HBx.out⟩
    case round =>
      clear HT0 HBx
      obtain ⟨k, vs, hk, rfl, ht, hnl, hb⟩ := hrel
      have HNl := hideIt hnl
      clear hnl
      have HT := hideIt ht
      have HB := hideIt hb
      clear ht hb
      by_cases hk8 : k < 8
      · have hmk := made39one wr
        have hTl := HT.out.tab.lt
        have hrow := HT.out.rows k hk8
        have hnil : vs k = .slice none 0 0 := HNl.out k (Nat.le_refl _)
        have hg0 : wr.grownBy (wr.alloc (.cells (vecL fun _ => 0).toArray 45)) (vs k).ownBlock := by rw [hnil]; exact World.grownBy_alloc _ _ _
        have hmid := TabN.grow HT.out hk8 (owns_one wr w1.heap.size HB.out.size) hg0 (.inr rfl)
        have R1 : Hid (InTab w1.heap.size w1.heap.size ((wr.alloc (.cells (vecL fun _ => 0).toArray 45)).setCell ⟨w1.heap.size, k, none⟩ (.slice (some ⟨wr.heap.size, 0, none⟩) 1 1)) (k + 1) (setT vs k (.slice (some ⟨wr.heap.size, 0, none⟩) 1 1))) :=
          TabN.same (hmid.put hk8) fun q _ => by
            by_cases e : q = k
            · subst e; simp [inL]
            · have : q < k + 1 ↔ q < k := by omega
              simp [inL, e, this]
        have R2 : Hid (Below w1.heap.size w1 ((wr.alloc (.cells (vecL fun _ => 0).toArray 45)).setCell ⟨w1.heap.size, k, none⟩ (.slice (some ⟨wr.heap.size, 0, none⟩) 1 1))) := (belA HB.out _).setCell (Nat.le_refl _) _
        have c0 : (wr.alloc (.cells (vecL fun _ => 0).toArray 45)).cell? ⟨w1.heap.size, k, none⟩ = some (vs k) := hmid.tab.cell hk8
        have z0 := hmid.tab.fz k
        rw [World.setCell_alloc_past _ _ _ _ hTl] at R1 R2
        clear hmid hrow hg0
        have hk8' : (k : Int) < 8 := by omega
        go_wp2
        go_roundw
        case rel => exact ⟨k + 1, _, by omega, by go_num, R1.out, fun q hq => by unfold setT; rw [if_neg (by omega)]; exact HNl.out q (by omega), R2.out⟩
        case measure => simp [intOf]; omega
      · obtain rfl : k = 8 := by omega
        have HP : Hid (PaTab l w1.heap.size w1.heap.size wr 0 vs) := TabN.same HT.out fun q hq => by
          simp [inL, hq, pthL, idxP]
        clear HT HNl
        go_wp2
        go_loopw [28] (fun i wr => ∃ (k : Nat) (vs : Nat → Value), k ≤ l.length ∧ i = .int .i64 k ∧ PaTab l w1.heap.size w1.heap.size wr k vs ∧ Below w1.heap.size w1 wr) (fun i _ => l.length - (intOf i).toNat)
        case atStart => exact ⟨0, vs, Nat.zero_le _, rfl, HP.out, HB.out⟩
        case round =>
          clear HP HB
          obtain ⟨k, vs, hk, rfl, ht, hb⟩ := hrel
          have HT := hideIt ht
          have HB := hideIt hb
          clear ht hb
          by_cases hkl : k < l.length
          · obtain ⟨b, off, rfl, hlt, hst⟩ : ∃ b off, a = some ⟨b, off, none⟩ ∧ b < w.heap.size ∧ StpsAt w b off l := by
              rcases HL.out with h | h
              · subst h; simp at hkl
              · exact h
            obtain ⟨c0, c1, c2⟩ := (hst k hkl).below hlt (belJ HB1.out HB.out)
            have HX : Hid (stZ l k = l[k]) := stZ_at hkl
            have hnum := (step_num HFine.out hkl).1
            rw [HX.out] at hnum
            generalize l[k] = x at c0 c1 c2 HX hnum
            clear hst HL
            obtain ⟨p, hp⟩ : ∃ p : Nat, x.p = (p : Int) := ⟨x.p.toNat, by omega⟩
            have hp8 : p < 8 := by omega
            rw [hp] at c0
            have HXp : Hid ((stZ l k).p = (p : Int)) := by rw [HX.out]; exact hp
            obtain ⟨xp, xk, xm⟩ := x
            simp only at hp c0 c1 c2 hnum
            subst hp
            have hTl : w1.heap.size < wr.heap.size := HT.out.tab.lt
            have HV1 := hideIt (HV0.out.below HB.out hgv)
            obtain ⟨y0, y1, y2, y3, y4, y5, y6, y7⟩ := (HV1.out.at_ k hkl).eight
            have hgl : gv < wr.heap.size := Nat.lt_trans hgv hTl
            go_upto_region 13 with fail
            have hTA : PaTab l w1.heap.size w1.heap.size ((wr.alloc (.cells #[.int .i64 (p : Int), .int .i64 xk, .int .i64 xm] 63)).alloc (vecO (vecI l k) 45)).drew k vs := TabN.drew (TabN.alloc (TabN.alloc HT.out _) _)
            have hrow := hTA.rows p hp8
            have hs3 : ((wr.alloc (.cells #[.int .i64 (p : Int), .int .i64 xk, .int .i64 xm] 63)).alloc (vecO (vecI l k) 45)).drew.heap.size = wr.heap.size + 1 + 1 := by
              show ((wr.alloc (.cells #[.int .i64 (p : Int), .int .i64 xk, .int .i64 xm] 63)).alloc (vecO (vecI l k) 45)).heap.size = _
              simp
            have hVB : VecIn ((wr.alloc (.cells #[.int .i64 (p : Int), .int .i64 xk, .int .i64 xm] 63)).alloc (vecO (vecI l k) 45)).drew (wr.heap.size + 1) 0 (vecI l k) := by
              have := vecIn_new (wr.alloc (.cells #[.int .i64 (p : Int), .int .i64 xk, .int .i64 xm] 63)) (vecI l k) 45
              rw [World.size_alloc] at this
              exact this
            have hfew := idxP_few l k p
            obtain ⟨n1, w6, hr6, ho6, hg6, hob6⟩ := run_appV hrow hVB (by rw [hs3]; omega) (by rw [pthL_len]; omega) 39
            have hc : wr.cell? ⟨w1.heap.size, p, none⟩ = some (vs p) := HT.out.tab.cell hp8
            have hmid := TabN.grow hTA hp8 ho6 hg6 hob6
            have z0 := hmid.tab.cell hp8
            have z1 := hmid.tab.fz p
            have HEnd : Hid (PaTab l w1.heap.size w1.heap.size (w6.setCell ⟨w1.heap.size, p, none⟩ n1) (k + 1) (setT vs p n1)) := TabN.same (hmid.put hp8) fun q _ => by
              by_cases e : q = p
              · subst e
                rw [pthL_put HXp.out]
                simp
              · rw [pthL_keep (fun h => e (by rw [HXp.out] at h; omega))]
                simp [e]
            have HB6 : Hid (Below w1.heap.size w1 (w6.setCell ⟨w1.heap.size, p, none⟩ n1)) := ((belA (belA HB.out _) _).drew.grown hg6 (by rw [hs3]; omega) (fun b' hb' => (ownsRow_block hrow b' hb').1)).setCell (Nat.le_refl _) _
            obtain ⟨na, nc, hn1⟩ := ownsRow_slice ho6
            have HR6 := hideIt hr6
            have hw6 : w1.heap.size < w6.heap.size := hmid.tab.lt
            have hss := hg6.size
            rw [hs3] at hss
            have hst6 : w6.cell? ⟨wr.heap.size, 0, none⟩ = some (.int .i64 (p : Int)) := by
              have hown : (vs p).ownBlock ≠ some wr.heap.size := fun e => by
                have := (ownsRow_block (HT.out.rows p hp8) _ e).2.1
                omega
              have hblk := hg6.block wr.heap.size (by rw [hs3]; omega) (Ne.symm hown)
              rw [World.cell?_of_block (a := ⟨wr.heap.size, 0, none⟩) hblk]
              show ((wr.alloc (.cells #[.int .i64 (p : Int), .int .i64 xk, .int .i64 xm] 63)).alloc (vecO (vecI l k) 45)).cell? _ = _
              rw [World.cell?_alloc_lt _ _ ⟨wr.heap.size, 0, none⟩ (by simp)]
              simp
            have hv6 : VecIn w6 gv (k * 8) (vecI l k) := by
              have hown : (vs p).ownBlock ≠ some gv := fun e => by
                have := (ownsRow_block (HT.out.rows p hp8) _ e).1
                omega
              have hblk := hg6.block gv (by rw [hs3]; omega) (Ne.symm hown)
              have hbz : Below wr.heap.size wr ((wr.alloc (.cells #[.int .i64 (p : Int), .int .i64 xk, .int .i64 xm] 63)).alloc (vecO (vecI l k) 45)).drew := (belA (belA (Below.refl _ _) _) _).drew
              have h0 := (HV1.out.at_ k hkl).below hbz hgl
              exact fun q hq => (World.cell?_of_block (a := ⟨gv, k * 8 + q, none⟩) hblk).trans (h0 q hq)
            obtain ⟨v0, v1, v2, v3, v4, v5, v6, v7⟩ := hv6.eight
            clear hTA hrow hs3 hVB ho6 hg6 hob6 hmid hr6 hv6
            unfold vecO at HR6
            subst hn1
            have hp8' : (p : Int) < 8 := by omega
            have hx1 : ¬ w1.heap.size = wr.heap.size := by omega
            have hx2 : ¬ wr.heap.size = w1.heap.size := by omega
            have hx3 : ¬ gv = wr.heap.size := by omega
            have hx4 : ¬ wr.heap.size = gv := by omega
            have hx5 : ¬ w1.heap.size = gv := by omega
            have hx6 : ¬ gv = w1.heap.size := by omega
            refine wp_region_held_drew (S := (fun w' => w'.cell? ⟨wr.heap.size, 0, none⟩ = some (.int .i64 (p : Int)) ∧ w'.cell? ⟨gv, k * 8, none⟩ = some (.int .i64 (vecI l k 0)) ∧ w'.cell? ⟨gv, k * 8 + 1, none⟩ = some (.int .i64 (vecI l k 1)) ∧ w'.cell? ⟨gv, k * 8 + 2, none⟩ = some (.int .i64 (vecI l k 2)) ∧ w'.cell? ⟨gv, k * 8 + 3, none⟩ = some (.int .i64 (vecI l k 3)) ∧ w'.cell? ⟨gv, k * 8 + 4, none⟩ = some (.int .i64 (vecI l k 4)) ∧ w'.cell? ⟨gv, k * 8 + 5, none⟩ = some (.int .i64 (vecI l k 5)) ∧ w'.cell? ⟨gv, k * 8 + 6, none⟩ = some (.int .i64 (vecI l k 6)) ∧ w'.cell? ⟨gv, k * 8 + 7, none⟩ = some (.int .i64 (vecI l k 7)))) (by kernel_rfl) (by go_keep) (fun hHeld => ?_)
            refine wpAnyH_take (i := 0) (v := ?_) rfl (by kernel_rfl) (by kernel_rfl) (by kernel_rfl) (fun _ _ _ h => h) (Or.inl ⟨by rfl, ?_⟩) (by assumption) ?_
            rotate_left 1
            · intro w ⟨s0, s1, s2, s3, s4, s5, s6, s7, s8⟩
              go_simp
              all_goals with_reducible rfl
            simp only [Act.put, List.setIfInBounds_toArray, List.set_cons_zero, List.set_cons_succ, List.getElem_toArray, List.getElem_cons_zero]
            refine wpAnyH_take (i := 1) (v := ?_) rfl (by kernel_rfl) (by kernel_rfl) (by kernel_rfl) (fun _ _ _ h => h) (Or.inl ⟨by rfl, ?_⟩) (by assumption) ?_
            rotate_left 1
            · intro w ⟨s0, s1, s2, s3, s4, s5, s6, s7, s8⟩
              go_simp
              all_goals with_reducible rfl
            simp only [Act.put, List.setIfInBounds_toArray, List.set_cons_zero, List.set_cons_succ, List.getElem_toArray, List.getElem_cons_zero, List.getElem_cons_succ]
            refine wpAnyH_take (i := 2) (v := ?_) rfl (by kernel_rfl) (by kernel_rfl) (by kernel_rfl) (fun _ _ _ h => h) (Or.inl ⟨by rfl, ?_⟩) (by assumption) ?_
            rotate_left 1
            · intro w ⟨s0, s1, s2, s3, s4, s5, s6, s7, s8⟩
              go_simp
              all_goals with_reducible rfl
            simp only [Act.put, List.setIfInBounds_toArray, List.set_cons_zero, List.set_cons_succ, List.getElem_toArray, List.getElem_cons_zero, List.getElem_cons_succ]
            refine wpAnyH_take (i := 3) (v := ?_) rfl (by kernel_rfl) (by kernel_rfl) (by kernel_rfl) (fun _ _ _ h => h) (Or.inl ⟨by rfl, ?_⟩) (by assumption) ?_
            rotate_left 1
            · intro w ⟨s0, s1, s2, s3, s4, s5, s6, s7, s8⟩
              go_simp
              all_goals with_reducible rfl
            simp only [Act.put, List.setIfInBounds_toArray, List.set_cons_zero, List.set_cons_succ, List.getElem_toArray, List.getElem_cons_zero, List.getElem_cons_succ]
            refine wpAnyH_take (i := 4) (v := ?_) rfl (by kernel_rfl) (by kernel_rfl) (by kernel_rfl) (fun _ _ _ h => h) (Or.inl ⟨by rfl, ?_⟩) (by assumption) ?_
            rotate_left 1
            · intro w ⟨s0, s1, s2, s3, s4, s5, s6, s7, s8⟩
              go_simp
              all_goals with_reducible rfl
            simp only [Act.put, List.setIfInBounds_toArray, List.set_cons_zero, List.set_cons_succ, List.getElem_toArray, List.getElem_cons_zero, List.getElem_cons_succ]
            refine wpAnyH_take (i := 6) (v := ?_) rfl (by kernel_rfl) (by kernel_rfl) (by kernel_rfl) (fun _ _ _ h => h) (Or.inl ⟨by rfl, ?_⟩) (by assumption) ?_
            rotate_left 1
            · intro w ⟨s0, s1, s2, s3, s4, s5, s6, s7, s8⟩
              go_simp
              all_goals with_reducible rfl
            simp only [Act.put, List.setIfInBounds_toArray, List.set_cons_zero, List.set_cons_succ, List.getElem_toArray, List.getElem_cons_zero, List.getElem_cons_succ]
            refine wpAnyH_take (i := 7) (v := ?_) rfl (by kernel_rfl) (by kernel_rfl) (by kernel_rfl) (fun _ _ _ h => h) (Or.inl ⟨by rfl, ?_⟩) (by assumption) ?_
            rotate_left 1
            · intro w ⟨s0, s1, s2, s3, s4, s5, s6, s7, s8⟩
              go_simp
              all_goals with_reducible rfl
            simp only [Act.put, List.setIfInBounds_toArray, List.set_cons_zero, List.set_cons_succ, List.getElem_toArray, List.getElem_cons_zero, List.getElem_cons_succ]
            refine wpAnyH_take (i := 8) (v := ?_) rfl (by kernel_rfl) (by kernel_rfl) (by kernel_rfl) (fun _ _ _ h => h) (Or.inl ⟨by rfl, ?_⟩) (by assumption) ?_
            rotate_left 1
            · intro w ⟨s0, s1, s2, s3, s4, s5, s6, s7, s8⟩
              go_simp
              all_goals with_reducible rfl
            simp only [Act.put, List.setIfInBounds_toArray, List.set_cons_zero, List.set_cons_succ, List.getElem_toArray, List.getElem_cons_zero, List.getElem_cons_succ]
            refine wpAnyH_take (i := 9) (v := ?_) rfl (by kernel_rfl) (by kernel_rfl) (by kernel_rfl) (fun _ _ _ h => h) (Or.inl ⟨by rfl, ?_⟩) (by assumption) ?_
            rotate_left 1
            · intro w ⟨s0, s1, s2, s3, s4, s5, s6, s7, s8⟩
              go_simp
              all_goals with_reducible rfl
            simp only [Act.put, List.setIfInBounds_toArray, List.set_cons_zero, List.set_cons_succ, List.getElem_toArray, List.getElem_cons_zero, List.getElem_cons_succ]
            refine wpAnyH_ready (rs := [5, 10]) (by kernel_rfl) (by simp) (AllReadyH.cons rfl (fun K hK => ?_) (AllReadyH.cons rfl (fun K hK => ?_) AllReadyH.nil))
            · go_simp
              refine hK.out _ _ ?_ (fun hHeld => ?_)
              · go_keep
              clear hK K
              refine wpAnyH_ready (rs := [10]) (by kernel_rfl) (by simp) (AllReadyH.cons rfl (fun K hK => ?_) AllReadyH.nil)
              go_simp
              refine hK.out _ _ ?_ (fun hHeld => ?_)
              · go_keep
              clear hK K
              refine wpAnyH_ready (rs := [11]) (by kernel_rfl) (by simp) (AllReadyH.cons rfl (fun K hK => ?_) AllReadyH.nil)
              refine step_append_run (by rfl) _ _ 39 (by rfl) _ _ _ w6 (by rfl) (by rfl) HR6.out ?_
              refine hK.out _ _ ?_ (fun hHeld => ?_)
              · go_keep
              clear hK K
              refine wpAnyH_ready (rs := [12]) (by kernel_rfl) (by simp) (AllReadyH.cons rfl (fun K hK => ?_) AllReadyH.nil)
              go_simp
              refine hK.out _ _ ?_ (fun hHeld => ?_)
              · go_keep
              clear hK K
              refine wpAnyH_ready (rs := [13]) (by kernel_rfl) (by simp) (AllReadyH.cons rfl (fun K hK => ?_) AllReadyH.nil)
              go_simp
              refine hK.out _ _ ?_ (fun hHeld => ?_)
              · go_keep
              clear hK K
              refine wpAnyH_done (by kernel_rfl) ?_ _
              go_wp2
              go_roundw
              case rel =>
                (repeat apply Exists.intro)
                exact ⟨⟨k + 1, _, by omega, by go_num, HEnd.out, HB6.out⟩, rfl⟩
              case measure => simp [intOf]; omega
            · go_simp
              refine hK.out _ _ ?_ (fun hHeld => ?_)
              · go_keep
              clear hK K
              refine wpAnyH_ready (rs := [5]) (by kernel_rfl) (by simp) (AllReadyH.cons rfl (fun K hK => ?_) AllReadyH.nil)
              go_simp
              refine hK.out _ _ ?_ (fun hHeld => ?_)
              · go_keep
              clear hK K
              refine wpAnyH_ready (rs := [11]) (by kernel_rfl) (by simp) (AllReadyH.cons rfl (fun K hK => ?_) AllReadyH.nil)
              refine step_append_run (by rfl) _ _ 39 (by rfl) _ _ _ w6 (by rfl) (by rfl) HR6.out ?_
              refine hK.out _ _ ?_ (fun hHeld => ?_)
              · go_keep
              clear hK K
              refine wpAnyH_ready (rs := [12]) (by kernel_rfl) (by simp) (AllReadyH.cons rfl (fun K hK => ?_) AllReadyH.nil)
              go_simp
              refine hK.out _ _ ?_ (fun hHeld => ?_)
              · go_keep
              clear hK K
              refine wpAnyH_ready (rs := [13]) (by kernel_rfl) (by simp) (AllReadyH.cons rfl (fun K hK => ?_) AllReadyH.nil)
              go_simp
              refine hK.out _ _ ?_ (fun hHeld => ?_)
              · go_keep
              clear hK K
              refine wpAnyH_done (by kernel_rfl) ?_ _
              go_wp2
              go_roundw
              case rel =>
                (repeat apply Exists.intro)
                exact ⟨⟨k + 1, _, by omega, by go_num, HEnd.out, HB6.out⟩, rfl⟩
              case measure => simp [intOf]; omega
          · obtain rfl : k = l.length := by omega
            have HRd := hideIt (PaTab.read HT.out)
            have hrm := HR1.out.below HB.out HR1.out.lt
            obtain ⟨A, M, C, hAMC⟩ := slV_of (vs := vs) fun p hp => by
              obtain ⟨a', c', h⟩ := ownsRow_slice (HT.out.rows p hp)
              exact ⟨_, _, _, h⟩
            have HRs := hideIt (HRd.out.same hAMC)
            have hrs : RoomB wr w1.heap.size (slV A M C) := ⟨HT.out.tab.room.blk, fun p hp => by rw [← hAMC p hp]; exact HT.out.tab.room.at_ p hp⟩
            obtain ⟨e0, e1, e2, e3, e4, e5, e6, e7⟩ := hrs.eight
            obtain ⟨d0, d1, d2, d3, d4, d5, d6, d7⟩ := hrm.eight
            have zf := hrm.fz
            have HFin : Hid (RoomB (wr.setCells w.heap.size 0 (pthCs (slV A M C))) w.heap.size (slV A M C)) := hrm.store (slV A M C)
            have hwl : w.heap.size < w1.heap.size := HR1.out.lt
            have hgb := grown_setCells w.heap.size (pthCs (slV A M C)) 0 wr
            have HB2 : Hid (Below w.heap.size w (wr.setCells w.heap.size 0 (pthCs (slV A M C)))) := (belJ HB1.out HB.out).grown hgb (belJ HB1.out HB.out).size (fun b' hb' => by cases hb'; exact Nat.le_refl _)
            have HRf : Hid (KnRead l (wr.setCells w.heap.size 0 (pthCs (slV A M C))) (slV A M C)) := fun p hp => by
              obtain ⟨g, cap', h1, h2, h3, h4⟩ := HRs.out p hp
              have hg1 : w1.heap.size ≤ g := by
                have := (ownsRow_block (HT.out.rows p hp) g (by rw [hAMC p hp, h1]; rfl)).1
                exact this
              refine ⟨g, cap', h1, h2, Nat.lt_of_lt_of_le h3 hgb.size, fun r hr q hq => ?_⟩
              rw [World.cell?_of_block (a := ⟨g, r * 8 + q, none⟩) (hgb.block g h3 (by simp; omega))]
              exact h4 r hr q hq
            clear hrm hrs hgb hAMC HRs HRd
            unfold slV at e0 e1 e2 e3 e4 e5 e6 e7
            go_wp2
            refine bodyPost_ret (results_two rfl _ _ _ _ rfl (load78 HFin.out.at_)) rfl ?_
            exact ⟨A, M, C, _, 0, -1, rfl, HCk.out, .inl ⟨rfl, rfl, rfl⟩, fun _ => HRf.out, HB2.out⟩
  · obtain ⟨tt, uu, rfl⟩ := her.ne hn
    obtain ⟨d0, d1, d2, d3, d4, d5, d6, d7⟩ := HR1.out.eight
    have zf := HR1.out.fz
    clear her hno hok
    go_wp2
    refine bodyPost_ret (results_two rfl _ _ _ _ rfl (load78 (HR1.out.store nil8).at_)) rfl ?_
    have hg := grown_setCells w.heap.size (pthCs nil8) 0 w1
    have hne : ∀ g, g < w1.heap.size → g ≠ w.heap.size → (w1.setCells w.heap.size 0 (pthCs nil8)).heap[g]? = w1.heap[g]? := fun g h1 h2 => hg.block g h1 (by simp; omega)
    refine ⟨fun _ => none, fun _ => 0, fun _ => 0, _, n, pl, rfl, HCk.out, ?_, fun h => absurd h hn, HB1.out.grown hg HB1.out.size (fun b' hb' => by cases hb'; exact Nat.le_refl _)⟩
    rcases HE.out with h | h | ⟨h1, h2, g, h3, hgl, c0, c1⟩
    · exact absurd h.1 hn
    · exact .inr (.inl h)
    · have hgw : g ≠ w.heap.size := fun e => by
        subst e
        rw [HR1.out.at_ 0 (by omega)] at c0
        cases c0
      exact .inr (.inr ⟨h1, h2, g, h3, Nat.lt_of_lt_of_le hgl hg.size, (World.cell?_of_block (a := ⟨g, 0, none⟩) (hne g hgl hgw)).trans c0, (World.cell?_of_block (a := ⟨g, 1, none⟩) (hne g hgl hgw)).trans c1⟩)
end Go.Proofs.YtmonbkoelehdlaaDoor
