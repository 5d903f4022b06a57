/-
  The library's Repeat of one pair, four times; four pairs in memory.
  Two pairs of numbers held against each other.
  Package session's Broken, walked.
-/
import Derived.Test.YtfojmbbhcmeejaaDoorSsPZ
import Derived.Laws.IdiomCopy
import Derived.DeepKeys
namespace Go.Proofs.YtfojmbbhcmeejaaDoor
open Go.RowKit

section
variable {P : Program}
/-- copy at elements of two cells. -/
theorem run_copy_cells2 (w : World) (dT sT ty elem : TypeId) (b o dLen dCap : Nat) (a : Addr) (sLen sCap : Nat) (cs : List Value)
    (hu : P.underlying dT = some (.slice elem)) (hs : (P.info? elem).map (·.size) = some 2) (hn : cs.length = Nat.min sLen dLen * 2)
    (hsrc : ∀ j v, cs[j]? = some v → w.cell? (a.add j) = some v) (hc : ∀ j, j < cs.length → (w.cell? ⟨b, o + j, none⟩).isSome = true) (hf : ∀ j, j < cs.length → w.frozen? ⟨b, o + j, none⟩ = false) (h1 : ∀ v ∈ cs, v.oneCell' = true) :
    (Builtin.copy_ #[dT, sT] ty #[.slice (some ⟨b, o, none⟩) dLen dCap, .slice (some a) sLen sCap]).run P w = .ok (goInt (Nat.min sLen dLen)) (w.setCells b o cs) := by
  have hl := run_loadCells_list (P := P) w a cs hsrc
  have hst := run_storeCells_cells (P := P) b o cs 0 w (by simpa using hc) (by simpa using hf) h1
  cases hq : P.info? elem with
  | none => simp [hq] at hs
  | some i =>
    have hi : i.size = 2 := by simpa [hq] using hs
    simp [Builtin.copy_, run_underlying hu, Builtin.lenOf, Builtin.firstCells, sizeOf, typeInfo, hq, hi, ← hn, hl, hst]
end

set_option maxRecDepth 100000 in
set_option maxHeartbeats 1000000 in
theorem mul64_lit (w : World) : Calls Tryd.prog 71 #[.int .u64 1, .int .u64 4] w fun e w' => e = .returned (.tuple #[.int .u64 0, .int .u64 4]) ∧ w' = w := by
  go_enter Tryd.func71, Tryd.ntmps71
  go_wp2
  go_ret2
  exact ⟨rfl, rfl⟩
set_option maxRecDepth 100000 in
set_option maxHeartbeats 1000000 in
theorem mul_lit (w : World) : Calls Tryd.prog 58 #[.int .u64 1, .int .u64 4] w fun e w' => e = .returned (.tuple #[.int .u64 0, .int .u64 4]) ∧ w' = w := by
  go_enter Tryd.func58, Tryd.ntmps58
  go_wp2_with (go_at_call 71; refine (mul64_lit _).mono ?_; rintro e w' ⟨rfl, rfl⟩)
  go_ret2
  exact ⟨rfl, rfl⟩

/-- Four pairs in a block of their own. -/
structure FourAt (w : World) (g : Nat) (f : Nat → Int × Int) : Prop where
  blk : ∃ cur t, w.heap[g]? = some (.cells cur t (0, 0))
  at_ : ∀ q, q < 4 → w.cell? ⟨g, q * 2, none⟩ = some (.int .i64 (f q).1) ∧ w.cell? ⟨g, q * 2 + 1, none⟩ = some (.int .i64 (f q).2)

/-- Eight cells, all numbers; the first ones -1. -/
structure RepAt (w : World) (g m : Nat) : Prop where
  blk : ∃ cur t, w.heap[g]? = some (.cells cur t (0, 0))
  some_ : ∀ j, j < 8 → (w.cell? ⟨g, j, none⟩).isSome = true
  at_ : ∀ j, j < 2 * m → w.cell? ⟨g, j, none⟩ = some (.int .i64 (-1))
theorem RepAt.fz {w : World} {g m : Nat} (h : RepAt w g m) (i : Nat) : w.frozen? ⟨g, i, none⟩ = false := by
  obtain ⟨cur, t, hc⟩ := h.blk
  exact frozen_of_row w g i cur t hc
def negs (n : Nat) : List Value := List.replicate n (.int .i64 (-1))
theorem negs_len (n : Nat) : (negs n).length = n := by simp [negs]
theorem negs_at {n j : Nat} {u : Value} (h : (negs n)[j]? = some u) : j < n ∧ u = .int .i64 (-1) := by
  unfold negs at h
  rw [List.getElem?_replicate] at h
  split at h
  · next hj => exact ⟨hj, (Option.some.inj h).symm⟩
  · cases h
theorem negs_one (n : Nat) : ∀ u ∈ negs n, u.oneCell' = true := fun u hu => by
  unfold negs at hu
  rw [(List.mem_replicate.1 hu).2]; rfl
/-- More of them set. -/
theorem RepAt.more {w : World} {g m k : Nat} (h : RepAt w g m) (hk : m + k ≤ 4) : RepAt (w.setCells g (2 * m) (negs (2 * k))) g (m + k) := by
  obtain ⟨cur, t, hc⟩ := h.blk
  obtain ⟨cur', hc', hsz⟩ := heap_setCells (negs (2 * k)) (2 * m) w cur hc
  have hin : ∀ j, j < 2 * k → (w.setCells g (2 * m) (negs (2 * k))).cell? ⟨g, 2 * m + j, none⟩ = some (.int .i64 (-1)) := fun j hj => by
    have := World.cell?_setCells_in g (negs (2 * k)) (2 * m) w (fun i hi => h.some_ (2 * m + i) (by rw [negs_len] at hi; omega)) j (by rw [negs_len]; exact hj)
    rw [this]
    simp [negs]
  have hout : ∀ j, j < 2 * m → (w.setCells g (2 * m) (negs (2 * k))).cell? ⟨g, j, none⟩ = w.cell? ⟨g, j, none⟩ := fun j hj =>
    World.cell?_setCells_out g _ _ _ _ (fun _ _ => .inl (by show j < 2 * m; exact hj))
  have hcur : 8 ≤ cur.size := by
    have := h.some_ 7 (by omega)
    rw [cell_of_row w g 7 cur t (0, 0) hc] at this
    rcases Nat.lt_or_ge 7 cur.size with hl | hl
    · omega
    · rw [Array.getElem?_eq_none hl] at this; cases this
  refine ⟨⟨cur', t, hc'⟩, fun j hj => ?_, fun j hj => ?_⟩
  · rw [cell_of_row _ g j cur' t (0, 0) hc', Array.getElem?_eq_getElem (by omega)]; rfl
  · by_cases e : j < 2 * m
    · rw [hout j e]; exact h.at_ j e
    · have := hin (j - 2 * m) (by omega)
      rwa [show 2 * m + (j - 2 * m) = j by omega] at this
theorem RepAt.four {w : World} {g : Nat} (h : RepAt w g 4) : FourAt w g (fun _ => (-1, -1)) := ⟨h.blk, fun q hq => ⟨h.at_ _ (by omega), h.at_ _ (by omega)⟩⟩

theorem info57 : (Tryd.prog.info? 57).map (fun i => (i.zero, i.size, i.bytes)) = some (some (.agg #[.int .i64 0, .int .i64 0]), 2, 16) := by kernel_rfl
theorem made_four (w : World) : (Instr.makeSlice 51 (.int .i64 4) (.int .i64 4)).run Tryd.prog w = .ok (.slice (some ⟨w.heap.size, 0, none⟩) 4 4) (w.alloc (.cells (madeCells #[.int .i64 0, .int .i64 0] 8) 57)) := by
  obtain ⟨i, hi, hz, hs, hb⟩ := info_parts info57
  have := run_make (P := Tryd.prog) w 51 57 i (.agg #[.int .i64 0, .int .i64 0]) Tryd.underlying51 hi hz .i64 .i64 4 4 (by omega) (Int.le_refl _) (by rw [hb]; omega) (by omega)
  have e : (Value.agg #[.int .i64 0, .int .i64 0]).cells = #[.int .i64 0, .int .i64 0] := rfl
  rw [e] at this
  simpa [hs] using this
theorem rep_made (w : World) : RepAt (w.alloc (.cells (madeCells #[.int .i64 0, .int .i64 0] 8) 57)) w.heap.size 0 := by
  refine ⟨⟨_, _, heap_alloc_new w _⟩, fun j hj => ?_, fun j hj => absurd hj (by omega)⟩
  rw [cell_of_row _ _ j _ 57 _ (heap_alloc_new w _), Array.getElem?_eq_getElem (by rw [size_madeCells]; exact hj)]; rfl
/-- The copy of the first k pairs behind the first m. -/
theorem rep_copy {w : World} {g m k : Nat} (h : RepAt w g m) (hk : k ≤ m) (hm : m + k ≤ 4) (ty : TypeId) (c1 c2 : Nat) {n : Nat} (hn : Nat.min k n = k) :
    (Builtin.copy_ #[51, 51] ty #[.slice (some ⟨g, 2 * m, none⟩) n c1, .slice (some ⟨g, 0, none⟩) k c2]).run Tryd.prog w = .ok (goInt k) (w.setCells g (2 * m) (negs (2 * k))) := by
  have := run_copy_cells2 (P := Tryd.prog) w 51 51 ty 57 g (2 * m) n c1 ⟨g, 0, none⟩ k c2 (negs (2 * k)) Tryd.underlying51 (by kernel_rfl) (by rw [negs_len, hn]; omega)
    (fun j u hu => by
      obtain ⟨hj, rfl⟩ := negs_at hu
      rw [Addr.add_lit, Nat.zero_add]
      exact h.at_ j (by omega))
    (fun j hj => h.some_ _ (by rw [negs_len] at hj; omega)) (fun j _ => h.fz _) (negs_one _)
  rw [hn] at this
  exact this
theorem rep_first {w : World} {g Bx : Nat} (h : RepAt w g 0) (b0 : w.cell? ⟨Bx, 0, none⟩ = some (.int .i64 (-1))) (b1 : w.cell? ⟨Bx, 1, none⟩ = some (.int .i64 (-1))) (ty : TypeId) :
    (Builtin.copy_ #[51, 51] ty #[.slice (some ⟨g, 0, none⟩) 4 4, .slice (some ⟨Bx, 0, none⟩) 1 1]).run Tryd.prog w = .ok (goInt 1) (w.setCells g 0 (negs 2)) := by
  have := run_copy_cells2 (P := Tryd.prog) w 51 51 ty 57 g 0 4 4 ⟨Bx, 0, none⟩ 1 1 (negs 2) Tryd.underlying51 (by kernel_rfl) (by rw [negs_len]; rfl)
    (fun j u hu => by
      obtain ⟨hj, rfl⟩ := negs_at hu
      rw [Addr.add_lit, Nat.zero_add]
      rcases (by omega : j = 0 ∨ j = 1) with rfl | rfl
      · exact b0
      · exact b1)
    (fun j hj => h.some_ _ (by rw [negs_len] at hj; omega)) (fun j _ => h.fz _) (negs_one _)
  exact this

set_option maxRecDepth 100000 in
set_option maxHeartbeats 2000000 in
theorem repeat_any (Bx : Nat) (w : World) (b0 : w.cell? ⟨Bx, 0, none⟩ = some (.int .i64 (-1))) (b1 : w.cell? ⟨Bx, 1, none⟩ = some (.int .i64 (-1))) :
    Calls Tryd.prog 39 #[.slice (some ⟨Bx, 0, none⟩) 1 1, .int .i64 4] w fun e w' => ∃ g, e = .returned (.slice (some ⟨g, 0, none⟩) 4 4) ∧ w.heap.size ≤ g ∧ FourAt w' g (fun _ => (-1, -1)) ∧ Below w.heap.size w w' := by
  have hBx := World.block_lt_of_cell? w _ b0
  have hmk := made_four w
  have HR0 := hideIt (rep_made w)
  have hcp := rep_first HR0.out (Bx := Bx) (by rw [World.cell?_alloc_lt _ _ ⟨Bx, 0, none⟩ hBx]; exact b0) (by rw [World.cell?_alloc_lt _ _ ⟨Bx, 1, none⟩ hBx]; exact b1)
  go_enter Tryd.func39, Tryd.ntmps39
  go_wp2_with (go_at_call 58; refine (mul_lit _).mono ?_; rintro e w' ⟨rfl, rfl⟩)
  have HR1 : Hid (RepAt ((w'.alloc (.cells (madeCells #[.int .i64 0, .int .i64 0] 8) 57)).setCells w'.heap.size 0 (negs 2)) w'.heap.size 1) := HR0.out.more (k := 1) (by omega)
  have HB1 : Hid (Below w'.heap.size w' ((w'.alloc (.cells (madeCells #[.int .i64 0, .int .i64 0] 8) 57)).setCells w'.heap.size 0 (negs 2))) := (belA (Below.refl _ _) _).grown (grown_setCells _ _ _ _) (by simp) (fun k hk => by cases hk; exact Nat.le_refl _)
  clear hcp hmk HR0 b0 b1
  have HW0 : ∃ G, Hid (w'.heap.size = G) := ⟨_, hideIt rfl⟩
  obtain ⟨G, HG⟩ := HW0
  rw [HG.out] at HR1 HB1 ⊢
  clear hBx
  go_loopw [8] (fun v wr => ((v = .int .i64 1 ∧ RepAt wr G 1) ∨ (v = .int .i64 2 ∧ RepAt wr G 2) ∨ (v = .int .i64 4 ∧ RepAt wr G 4)) ∧ Below G w' wr ∧ G < wr.heap.size) (fun v _ => 4 - (intOf v).toNat)
  case atStart =>
    refine ⟨.inl ⟨rfl, HR1.out⟩, HB1.out, ?_⟩
    obtain ⟨cur, t, hc⟩ := HR1.out.blk
    exact lt_of_heap hc
  case round =>
    clear HR1 HB1
    obtain ⟨hm, hb, hlt⟩ := hrel
    have HB := hideIt hb
    clear hb
    rcases hm with ⟨rfl, hr⟩ | ⟨rfl, hr⟩ | ⟨rfl, hr⟩
    · have hrd : RepAt wr.drew G 1 := ⟨hr.blk, hr.some_, hr.at_⟩
      have hcp : ∀ ty, (Builtin.copy_ #[51, 51] ty #[.slice (some ⟨G, 2, none⟩) 3 3, .slice (some ⟨G, 0, none⟩) 1 4]).run Tryd.prog wr.drew = .ok (goInt 1) (wr.drew.setCells G 2 (negs 2)) := fun ty => rep_copy (m := 1) (k := 1) hrd (by omega) (by omega) ty 3 4 rfl
      have HR2 : Hid (RepAt (wr.drew.setCells G 2 (negs 2)) G 2) := hrd.more (m := 1) (k := 1) (by omega)
      have HB2 : Hid (Below G w' (wr.drew.setCells G 2 (negs 2))) := HB.out.drew.grown (grown_setCells _ _ _ _) (Nat.le_of_lt hlt) (fun k hk => by cases hk; exact Nat.le_refl _)
      clear hr hrd
      have hl2 : G < (wr.drew.setCells G 2 (negs 2)).heap.size := by
        obtain ⟨cur, t, hc⟩ := HR2.out.blk
        exact lt_of_heap hc
      go_wp2_with fail
      go_region
      go_wp2
      go_roundw
      case rel => exact ⟨.inr (.inl ⟨rfl, HR2.out⟩), HB2.out, hl2⟩
      case measure => simp [intOf]
    · have hrd : RepAt wr.drew G 2 := ⟨hr.blk, hr.some_, hr.at_⟩
      have hcp : ∀ ty, (Builtin.copy_ #[51, 51] ty #[.slice (some ⟨G, 4, none⟩) 2 2, .slice (some ⟨G, 0, none⟩) 2 4]).run Tryd.prog wr.drew = .ok (goInt 2) (wr.drew.setCells G 4 (negs 4)) := fun ty => rep_copy (m := 2) (k := 2) hrd (by omega) (by omega) ty 2 4 rfl
      have HR2 : Hid (RepAt (wr.drew.setCells G 4 (negs 4)) G 4) := hrd.more (m := 2) (k := 2) (by omega)
      have HB2 : Hid (Below G w' (wr.drew.setCells G 4 (negs 4))) := HB.out.drew.grown (grown_setCells _ _ _ _) (Nat.le_of_lt hlt) (fun k hk => by cases hk; exact Nat.le_refl _)
      have hl2 : G < (wr.drew.setCells G 4 (negs 4)).heap.size := by
        obtain ⟨cur, t, hc⟩ := HR2.out.blk
        exact lt_of_heap hc
      clear hr hrd
      go_wp2_with fail
      go_region
      go_wp2
      go_roundw
      case rel => exact ⟨.inr (.inr ⟨rfl, HR2.out⟩), HB2.out, hl2⟩
      case measure => simp [intOf]
    · have HR := hideIt hr
      clear hr
      go_wp2
      go_ret
      exact ⟨G, rfl, Nat.le_of_eq HG.out, HR.out.four, HG.out ▸ HB.out⟩

end Go.Proofs.YtfojmbbhcmeejaaDoor

namespace Go.Proofs.YtfojmbbhcmeejaaDoor
open Go.RowKit

theorem eq57 (w : World) (x y : Int) : (Op.equalIn 10000 57 (.agg #[.int .i64 x, .int .i64 y]) (.agg #[.int .i64 x, .int .i64 y])).run Tryd.prog w = .ok true w := by
  have h3 : (Tryd.prog.info? 3).map (fun i => (i.zero, i.size, i.bytes)) = some (some (Value.int .i64 0), 1, 8) := by kernel_rfl
  obtain ⟨i, hi, _, hs, _⟩ := info_parts h3
  rw [show (10000 : Nat) = 9999 + 1 from rfl, run_equalIn_array (P := Tryd.prog) w 9999 (t := 57) (e := 3) (n := 2) _ _ (by kernel_rfl) hi]
  have hc : Tryd.prog.cellsOf 3 = 1 := by kernel_rfl
  have he : Tryd.prog.plainKey 3 = true := by kernel_rfl
  have hx : ∀ v : Int, (Op.equalIn 9999 3 (.int .i64 v) (.int .i64 v)).run Tryd.prog w = .ok true w := fun v => by
    rw [show (9999 : Nat) = 9998 + 1 from rfl, run_equalIn_int w 9998 3 .i64 .i64 v v Tryd.underlying3]; simp
  have h0 := run_part_plain (P := Tryd.prog) w he (xs := #[Value.int .i64 x, .int .i64 y]) (off := 0 * 1) (v := .int .i64 x) rfl
  have h1 := run_part_plain (P := Tryd.prog) w he (xs := #[Value.int .i64 x, .int .i64 y]) (off := 1 * 1) (v := .int .i64 y) rfl
  rw [show List.range 2 = [0, 1] from rfl, hc]
  simp only [Op.eqItems, Sem.run_bind, h0, h1, hx, Result.andThen_ok, Bool.not_true, Bool.false_eq_true, if_false, Sem.run_pure]
end Go.Proofs.YtfojmbbhcmeejaaDoor

namespace Go.Proofs.YtfojmbbhcmeejaaDoor
open Go.RowKit

/-- What was found among the pairs ahead of the place (k, i). -/
def FoundTo (P : Nat → Nat → Bool) (n k i : Nat) (pr : Int × Int) : Prop :=
  (pr = (-1, -1) ∧ (∀ a, a < k → ∀ b, b < n → P a b = false) ∧ ∀ b, b < i → P k b = false) ∨
  ∃ a b, a < n ∧ b < n ∧ P a b = true ∧ (∀ a', a' < a → ∀ b', b' < n → P a' b' = false) ∧ (∀ b', b' < b → P a b' = false) ∧ pr = ((b : Int), (a : Int))
theorem FoundTo.begin (P : Nat → Nat → Bool) (n : Nat) : FoundTo P n 0 0 (-1, -1) := .inl ⟨rfl, fun a ha => absurd ha (by omega), fun b hb => absurd hb (by omega)⟩
theorem FoundTo.skip {P : Nat → Nat → Bool} {n k i : Nat} {pr : Int × Int} (h : FoundTo P n k i pr) (hp : P k i = false) : FoundTo P n k (i + 1) pr := by
  rcases h with ⟨e, h1, h2⟩ | h
  · refine .inl ⟨e, h1, fun b hb => ?_⟩
    by_cases e : b = i
    · subst e; exact hp
    · exact h2 b (by omega)
  · exact .inr h
theorem FoundTo.old {P : Nat → Nat → Bool} {n k i : Nat} {pr : Int × Int} (h : FoundTo P n k i pr) (hne : pr.1 ≠ -1) (k' i' : Nat) : FoundTo P n k' i' pr := by
  rcases h with ⟨e, _⟩ | h
  · rw [e] at hne; exact absurd rfl hne
  · exact .inr h
theorem FoundTo.new {P : Nat → Nat → Bool} {n k i : Nat} {pr : Int × Int} (h : FoundTo P n k i pr) (he : pr.1 = -1) (hk : k < n) (hi : i < n) (hp : P k i = true) (k' i' : Nat) : FoundTo P n k' i' ((i : Int), (k : Int)) := by
  rcases h with ⟨_, h1, h2⟩ | ⟨a, b, _, _, _, _, _, e⟩
  · exact .inr ⟨k, i, hk, hi, hp, h1, h2, rfl⟩
  · rw [e] at he; simp at he
theorem FoundTo.row {P : Nat → Nat → Bool} {n k i : Nat} {pr : Int × Int} (h : FoundTo P n k i pr) (hr : ∀ b, i ≤ b → b < n → P k b = false) : FoundTo P n (k + 1) 0 pr := by
  rcases h with ⟨e, h1, h2⟩ | h
  · refine .inl ⟨e, fun a ha b hb => ?_, fun b hb => absurd hb (by omega)⟩
    by_cases e : a = k
    · subst e
      by_cases hbi : b < i
      · exact h2 b hbi
      · exact hr b (by omega) hb
    · exact h1 a (by omega) b hb
  · exact .inr h
theorem FoundTo.told {l : List Opn} {V : List (List Int)} {g : Nat} {pr : Int × Int} (h : FoundTo (brkB l V g) l.length l.length 0 pr) : pr = brkI l V g := by
  unfold brkI
  rcases h with ⟨e, h1, _⟩ | ⟨a, b, ha, hb, hp, h1, h2, e⟩
  · rw [firstP_none h1]; exact e
  · rw [firstP_at ha hb h1 h2 hp]; exact e

theorem FourAt.fz {w : World} {g : Nat} {f : Nat → Int × Int} (h : FourAt w g f) (i : Nat) : w.frozen? ⟨g, i, none⟩ = false := by
  obtain ⟨cur, t, hc⟩ := h.blk
  exact frozen_of_row w g i cur t hc
theorem FourAt.lt {w : World} {g : Nat} {f : Nat → Int × Int} (h : FourAt w g f) : g < w.heap.size := by
  obtain ⟨cur, t, hc⟩ := h.blk
  exact lt_of_heap hc
theorem FourAt.below {B : Nat} {w w' : World} {g : Nat} {f : Nat → Int × Int} (h : FourAt w g f) (hb : Below B w w') (hg : g < B) : FourAt w' g f := by
  obtain ⟨cur, t, hc⟩ := h.blk
  exact ⟨⟨cur, t, (hb.block g hg).trans hc⟩, fun q hq => ⟨(hb.cell (p := ⟨g, q * 2, none⟩) hg).trans (h.at_ q hq).1, (hb.cell (p := ⟨g, q * 2 + 1, none⟩) hg).trans (h.at_ q hq).2⟩⟩
theorem FourAt.put {w : World} {g : Nat} {f : Nat → Int × Int} (h : FourAt w g f) {m : Nat} (hm : m < 4) (x y : Int) :
    FourAt ((w.setCell ⟨g, m * 2, none⟩ (.int .i64 x)).setCell ⟨g, m * 2 + 1, none⟩ (.int .i64 y)) g (fun q => if q = m then (x, y) else f q) := by
  obtain ⟨cur, t, hc⟩ := h.blk
  obtain ⟨cur1, hc1, _⟩ := heap_setCell hc (m * 2) (.int .i64 x)
  obtain ⟨cur2, hc2, _⟩ := heap_setCell hc1 (m * 2 + 1) (.int .i64 y)
  refine ⟨⟨cur2, t, hc2⟩, fun q hq => ?_⟩
  by_cases e : q = m
  · subst e
    rw [if_pos rfl]
    refine ⟨?_, ?_⟩
    · rw [World.cell?_setCell_other _ _ _ _ (offNe (by omega))]
      exact World.cell?_setCell_same _ _ _ (h.at_ q hq).1
    · have h2 : (w.setCell ⟨g, q * 2, none⟩ (.int .i64 x)).cell? ⟨g, q * 2 + 1, none⟩ = some (.int .i64 (f q).2) := by
        rw [World.cell?_setCell_other _ _ _ _ (offNe (by omega))]
        exact (h.at_ q hq).2
      exact World.cell?_setCell_same _ _ _ h2
  · rw [if_neg e]
    refine ⟨?_, ?_⟩
    · rw [World.cell?_setCell_other _ _ _ _ (offNe (by omega)), World.cell?_setCell_other _ _ _ _ (offNe (by omega))]
      exact (h.at_ q hq).1
    · rw [World.cell?_setCell_other _ _ _ _ (offNe (by omega)), World.cell?_setCell_other _ _ _ _ (offNe (by omega))]
      exact (h.at_ q hq).2

theorem nameI_lt (d e : Int) : nameI d e < 4 := by
  unfold nameI
  split
  · decide
  · split
    · decide
    · split <;> decide
theorem brkB_no {l : List Opn} {V : List (List Int)} {g k i : Nat} (h : fallB V (opZ l i) (opZ l k) = false) : brkB l V g k i = false := by unfold brkB; rw [h]; simp
theorem brkB_other {l : List Opn} {V : List (List Int)} {g k i : Nat} (h : nameI (opZ l i).d (opZ l k).d ≠ g) : brkB l V g k i = false := by unfold brkB; simp [h]
theorem brkB_yes {l : List Opn} {V : List (List Int)} {g k i : Nat} (hi : i < k) (hf : fallB V (opZ l i) (opZ l k) = true) (h : nameI (opZ l i).d (opZ l k).d = g) : brkB l V g k i = true := by unfold brkB; simp [h, hi, hf]
theorem brkB_late {l : List Opn} {V : List (List Int)} {g k i : Nat} (hi : k ≤ i) : brkB l V g k i = false := by unfold brkB; simp [show ¬ i < k by omega]

/-- What Broken tells. -/
def BkTold (l : List Opn) (V : List (List Int)) (w : World) (e : Ending) (w' : World) : Prop :=
  Below w.heap.size w w' ∧ ((∃ n, n ≠ 0 ∧ STold l V n ∧ e = .returned (.tuple #[.slice none 0 0, toldV n])) ∨
    (STold l V 0 ∧ ∃ g, w.heap.size ≤ g ∧ FourAt w' g (brkI l V) ∧ e = .returned (.tuple #[.slice (some ⟨g, 0, none⟩) 4 4, .nilIface])))

set_option maxRecDepth 100000 in
set_option maxHeartbeats 4000000 in
theorem broken_any (l : List Opn) (V : List (List Int)) (a : Option Addr) (cap : Nat) (v : Value) (w : World) (hlen : l.length ≤ 60) (hcap : l.length ≤ cap) (hl : OpsQ w a l) (hv : VersAt w v V) (hs : ShortV V) :
    Calls Tryd.prog 22 #[.slice a l.length cap, v] w fun e w' => BkTold l V w e w' := by
  have HC := hideIt (sCheck_any l V a cap v w hlen hcap hl hv hs)
  have HL := hideIt hl
  have HV := hideIt hv
  obtain ⟨va, vc, rfl, _⟩ := hv
  clear hl
  go_enter Tryd.func22, Tryd.ntmps22
  go_wp2_with fail
  refine HC.out.mono ?_
  rintro e w1 ⟨n, rfl, hct, hb1⟩
  have HCT := hideIt hct
  have HB1 := hideIt hb1
  clear hct hb1 HC
  by_cases hn : n = 0
  · subst hn
    have HSO := hideIt (sOk_of HCT.out)
    rw [show toldV 0 = .nilIface from by simp [toldV]]
    have HRp : Hid (∀ W, W = w1.alloc (.cells #[.int .i64 (-1), .int .i64 (-1)] 57) → Calls Tryd.prog 39 #[.slice (some ⟨w1.heap.size, 0, none⟩) 1 1, .int .i64 4] W fun e w' => ∃ g, e = .returned (.slice (some ⟨g, 0, none⟩) 4 4) ∧ w1.heap.size ≤ g ∧ FourAt w' g (fun _ => (-1, -1)) ∧ Below w1.heap.size w1 w') := by
      rintro W rfl
      refine (repeat_any w1.heap.size _ (by simp) (by simp)).mono ?_
      rintro e w' ⟨g, he, hg, hf, hb⟩
      have hb0 : Below w1.heap.size w1 (w1.alloc (.cells #[.int .i64 (-1), .int .i64 (-1)] 57)) := belA (Below.refl _ _) _
      exact ⟨g, he, Nat.le_trans hb0.size hg, hf, belJ hb0 hb⟩
    go_wp2_with fail
    refine (HRp.out _ rfl).mono ?_
    rintro e w2 ⟨g, rfl, hg, hf4, hb2⟩
    have HF4 := hideIt hf4
    have HB2 := hideIt (HB1.out.trans (hb2.mono HB1.out.size))
    have hgw : w.heap.size ≤ g := Nat.le_trans HB1.out.size hg
    clear hf4 hb2 HRp
    go_wp2
    go_loopw [24] (fun i wr => ∃ (k : Nat) (f : Nat → Int × Int), k ≤ l.length ∧ i = .int .i64 k ∧ FourAt wr g f ∧ (∀ q, q < 4 → FoundTo (brkB l V q) l.length k 0 (f q)) ∧ Below w.heap.size w wr) (fun i _ => l.length - (intOf i).toNat)
    case atStart => exact ⟨0, _, Nat.zero_le _, rfl, HF4.out, fun q _ => FoundTo.begin _ _, HB2.out⟩
    case round =>
      clear HF4 HB2
      obtain ⟨k, f, hk, rfl, hf4, hfd, hb3⟩ := hrel
      have HF4 := hideIt hf4
      have HFd := hideIt hfd
      have HB3 := hideIt hb3
      clear hf4 hfd hb3
      by_cases hkl : k < l.length
      · obtain ⟨b, off, hea, hlt, hops⟩ : ∃ b off, a = some ⟨b, off, none⟩ ∧ b < w.heap.size ∧ OpsAt w b off l := by
          rcases HL.out with h | h
          · subst h; simp at hkl
          · exact h
        subst hea
        have HO := hideIt hops
        obtain ⟨c0, c1, c2, c3, c4, c5, c6, c7⟩ := (hops k hkl).below hlt HB3.out
        have HX : Hid (opZ l k = l[k]) := opZ_at hkl
        have HNx := hideIt (HSO.out.ok.num k hkl).1
        rw [HX.out] at HNx
        generalize l[k] = y at c0 c1 c2 c3 c4 c5 c6 c7 HX HNx
        have hkI : (k : Int) ≤ (l.length : Int) := by omega
        have hgl : Hid (g < wr.heap.size) := HF4.out.lt
        have HBox : Hid (∀ W, W = wr.alloc (.cells #[.int .i64 y.p, .int .i64 y.k, .int .i64 y.d, .int .i64 y.a, .int .i64 y.b, .int .i64 y.r, .int .i64 y.c, .int .i64 y.e] 48) → OpAt W wr.heap.size 0 y ∧ wr.heap.size < W.heap.size ∧ Below wr.heap.size wr W ∧ g ≠ wr.heap.size) := by
          rintro W rfl
          have := hgl.out
          refine ⟨⟨?_, ?_, ?_, ?_, ?_, ?_, ?_, ?_⟩, ?_, belA (Below.refl _ _) _, by omega⟩ <;> simp
        clear hops HL
        go_wp2
        clear c0 c1 c2 c3 c4 c5 c6 c7
        generalize hW0 : wr.alloc _ = W0
        obtain ⟨hox, hXl, hbox, hgne⟩ := HBox.out W0 hW0.symm
        have HF5 := hideIt (HF4.out.below hbox hgl.out)
        have HB5 := hideIt (HB3.out.trans (hbox.mono HB3.out.size))
        generalize wr.heap.size = X at hox hXl hgne ⊢
        have HOX := hideIt hox
        have HXL := hideIt hXl
        clear HBox hW0 hbox hox hXl
        go_loopw [33] (fun q wz => ∃ (i : Nat) (f : Nat → Int × Int), i ≤ k ∧ q = .int .i64 i ∧ FourAt wz g f ∧ (∀ q, q < 4 → FoundTo (brkB l V q) l.length k i (f q)) ∧ OpAt wz X 0 y ∧ X < wz.heap.size ∧ Below w.heap.size w wz) (fun q _ => k - (intOf q).toNat)
        case atStart => exact ⟨0, f, Nat.zero_le _, rfl, HF5.out, HFd.out, HOX.out, HXL.out, HB5.out⟩
        case round =>
          clear HF4 HF5 HFd HB3 HB5 HOX HXL hgl
          obtain ⟨i, f, hi, rfl, hf4, hfd, hox, hxl, hb6⟩ := hrel
          have HF4 := hideIt hf4
          have HFd := hideIt hfd
          have HOX := hideIt hox
          have HXL := hideIt hxl
          have HB6 := hideIt hb6
          clear hf4 hfd hb6
          by_cases hik : i < k
          · have hil : i < l.length := by omega
            obtain ⟨c0, c1, c2, c3, c4, c5, c6, c7⟩ := (HO.out i hil).below hlt HB6.out
            have HY : Hid (opZ l i = l[i]) := opZ_at hil
            have HNy := hideIt (HSO.out.ok.num i hil).1
            rw [HY.out] at HNy
            generalize l[i] = x at c0 c1 c2 c3 c4 c5 c6 c7 HY HNy
            obtain ⟨y0, y1, y2, y3, y4, y5, y6, y7⟩ := hox
            have hXn : X ≠ wr.heap.size := by omega
            have yc : ∀ (o : Obj) (j : Nat) (u : Value), wr.cell? ⟨X, j, none⟩ = some u → (wr.alloc o).cell? ⟨X, j, none⟩ = some u := fun o j u h => by rw [World.cell?_alloc_lt _ _ ⟨X, j, none⟩ HXL.out]; exact h
            have z0 : ∀ o : Obj, (wr.alloc o).cell? ⟨X, 0, none⟩ = some (.int .i64 y.p) := fun o => yc o _ _ y0
            have z1 : ∀ o : Obj, (wr.alloc o).cell? ⟨X, 0 + 1, none⟩ = some (.int .i64 y.k) := fun o => yc o _ _ y1
            have z2 : ∀ o : Obj, (wr.alloc o).cell? ⟨X, 0 + 2, none⟩ = some (.int .i64 y.d) := fun o => yc o _ _ y2
            have z3 : ∀ o : Obj, (wr.alloc o).cell? ⟨X, 0 + 3, none⟩ = some (.int .i64 y.a) := fun o => yc o _ _ y3
            have z4 : ∀ o : Obj, (wr.alloc o).cell? ⟨X, 0 + 4, none⟩ = some (.int .i64 y.b) := fun o => yc o _ _ y4
            have z5 : ∀ o : Obj, (wr.alloc o).cell? ⟨X, 0 + 5, none⟩ = some (.int .i64 y.r) := fun o => yc o _ _ y5
            have z6 : ∀ o : Obj, (wr.alloc o).cell? ⟨X, 0 + 6, none⟩ = some (.int .i64 y.c) := fun o => yc o _ _ y6
            have z7 : ∀ o : Obj, (wr.alloc o).cell? ⟨X, 0 + 7, none⟩ = some (.int .i64 y.e) := fun o => yc o _ _ y7
            clear y0 y1 y2 y3 y4 y5 y6 y7 yc
            have HFB : Hid (∀ W, Below w.heap.size w W → Calls Tryd.prog 40 #[.slice va V.length vc, x.agg, y.agg] W fun e w' => e = .returned (.bool (fallB V x y)) ∧ Below W.heap.size W w') := fun W hW =>
              fallsBack_any x y V _ W (HV.out.below hW) HSO.out.eight hs HNy.out HNx.out
            have HNm : Hid (∀ W, Calls Tryd.prog 41 #[.int .i64 x.d, .int .i64 y.d] W fun e w' => e = .returned (.int .i64 ((nameI x.d y.d : Nat) : Int)) ∧ w' = W) := fun W => nameOf_any x.d y.d W
            have hgl : Hid (g < wr.heap.size) := HF4.out.lt
            have HKeep : Hid (∀ o w2, Below (wr.alloc o).heap.size (wr.alloc o) w2 → FourAt w2 g f ∧ OpAt w2 X 0 y ∧ X < w2.heap.size ∧ Below w.heap.size w w2) := fun o w2 h2 => by
              have h3 : Below wr.heap.size wr w2 := belJ (belA (Below.refl _ _) o) h2
              exact ⟨HF4.out.below h3 hgl.out, HOX.out.below HXL.out h3, Nat.lt_of_lt_of_le HXL.out h3.size, belJ HB6.out h3⟩
            unfold Opn.agg at HFB
            cases hfb : fallB V x y
            · rw [hfb] at HFB
              have R1 : Hid (∀ q, q < 4 → FoundTo (brkB l V q) l.length k (i + 1) (f q)) := fun q hq => (HFd.out q hq).skip (brkB_no (by rw [HX.out, HY.out]; exact hfb))
              clear hfb
              go_wp2_with (go_at_call 40; refine (HFB.out _ (belA HB6.out _)).mono ?_; rintro e w3 ⟨rfl, hb3⟩)
              go_roundw
              case rel => exact ⟨i + 1, f, by omega, by go_num, (HKeep.out _ _ hb3).1, R1.out, (HKeep.out _ _ hb3).2.1, (HKeep.out _ _ hb3).2.2.1, (HKeep.out _ _ hb3).2.2.2⟩
              case measure => simp [intOf]; omega
            · rw [hfb] at HFB
              have hm4 := nameI_lt x.d y.d
              have HName : Hid (nameI (opZ l i).d (opZ l k).d = nameI x.d y.d) := by show nameI (opZ l i).d (opZ l k).d = _; rw [HX.out, HY.out]
              have HYes : Hid (brkB l V (nameI x.d y.d) k i = true) := brkB_yes hik (by rw [HX.out, HY.out]; exact hfb) HName.out
              generalize nameI x.d y.d = m at HNm hm4 HName HYes
              have hm4I : (m : Int) < 4 := by omega
              have HBxc : Hid (∀ (o : Obj) (w3 : World), o = .cells #[.int .i64 x.p, .int .i64 x.k, .int .i64 x.d, .int .i64 x.a, .int .i64 x.b, .int .i64 x.r, .int .i64 x.c, .int .i64 x.e] 48 → Below (wr.alloc o).heap.size (wr.alloc o) w3 → w3.cell? ⟨wr.heap.size, 2, none⟩ = some (.int .i64 x.d) ∧ w3.cell? ⟨X, 2, none⟩ = some (.int .i64 y.d)) := fun o w3 ho h3 => by
                subst ho
                refine ⟨?_, (HKeep.out _ _ h3).2.1.2.2.1⟩
                rw [h3.cell (p := ⟨wr.heap.size, 2, none⟩) (by simp)]; simp
              clear hfb
              by_cases hp : (f m).1 = -1
              · have hp' : ((f m).1 == -1) = true := by simp [hp]
                have R1 : Hid (∀ q, q < 4 → FoundTo (brkB l V q) l.length k (i + 1) ((fun q => if q = m then ((i : Int), (k : Int)) else f q) q)) := fun q hq => by
                  by_cases e : q = m
                  · subst e; simp only [if_true]; exact (HFd.out q hq).new hp hkl hil HYes.out _ _
                  · simp only [if_neg e]; exact (HFd.out q hq).skip (brkB_other (by rw [HName.out]; exact fun h => e h.symm))
                clear hp
                go_wp2_with (first | (go_at_call 40; refine (HFB.out _ (belA HB6.out _)).mono ?_; rintro e w3 ⟨rfl, hb3⟩; obtain ⟨k1, k2⟩ := HBxc.out _ w3 rfl hb3; obtain ⟨hf4, hoy, hxl3, hbw3⟩ := HKeep.out _ _ hb3; have g1 := (hf4.at_ m hm4).1; have g2 := (hf4.at_ m hm4).2; have g3 := hf4.fz; have HF9 := hideIt hf4; have HOY := hideIt hoy; have HBW := hideIt hbw3; clear hf4 hoy hbw3 hb3) | (go_at_call 41; refine (HNm.out _).mono ?_; rintro e w4 ⟨rfl, rfl⟩))
                have R2 := hideIt (HF9.out.put hm4 (i : Int) (k : Int))
                have R3 := hideIt ((HOY.out.other (p := ⟨g, m * 2, none⟩) hgne (.int .i64 (i : Int))).other (p := ⟨g, m * 2 + 1, none⟩) hgne (.int .i64 (k : Int)))
                have R4 := hideIt ((HBW.out.setCell (p := ⟨g, m * 2, none⟩) hgw (.int .i64 (i : Int))).setCell (p := ⟨g, m * 2 + 1, none⟩) hgw (.int .i64 (k : Int)))
                go_roundw
                case rel => exact ⟨i + 1, _, by omega, by go_num, R2.out, R1.out, R3.out, by simpa using hxl3, R4.out⟩
                case measure => simp [intOf]; omega
              · have hp' : ((f m).1 == -1) = false := by simp [hp]
                have R1 : Hid (∀ q, q < 4 → FoundTo (brkB l V q) l.length k (i + 1) (f q)) := fun q hq => by
                  by_cases e : q = m
                  · subst e; exact (HFd.out q hq).old hp _ _
                  · exact (HFd.out q hq).skip (brkB_other (by rw [HName.out]; exact fun h => e h.symm))
                clear hp
                go_wp2_with (first | (go_at_call 40; refine (HFB.out _ (belA HB6.out _)).mono ?_; rintro e w3 ⟨rfl, hb3⟩; obtain ⟨k1, k2⟩ := HBxc.out _ w3 rfl hb3; obtain ⟨hf4, hoy, hxl3, hbw3⟩ := HKeep.out _ _ hb3; have g1 := (hf4.at_ m hm4).1; have g2 := (hf4.at_ m hm4).2; have g3 := hf4.fz; have HF9 := hideIt hf4; have HOY := hideIt hoy; have HBW := hideIt hbw3; clear hf4 hoy hbw3 hb3) | (go_at_call 41; refine (HNm.out _).mono ?_; rintro e w4 ⟨rfl, rfl⟩))
                go_roundw
                case rel => exact ⟨i + 1, f, by omega, by go_num, HF9.out, R1.out, HOY.out, hxl3, HBW.out⟩
                case measure => simp [intOf]; omega
          · have R1 : Hid (∀ q, q < 4 → FoundTo (brkB l V q) l.length (k + 1) 0 (f q)) := fun q hq => (HFd.out q hq).row fun b hb _ => brkB_late (by omega)
            go_wp2
            go_roundw
            case rel => exact ⟨k + 1, f, by omega, by go_num, HF4.out, R1.out, HB6.out⟩
            case measure => simp [intOf]; omega
      · obtain rfl : k = l.length := by omega
        have R1 : Hid (FourAt wr g (brkI l V)) := ⟨HF4.out.blk, fun q hq => by rw [← (HFd.out q hq).told]; exact HF4.out.at_ q hq⟩
        go_wp2
        go_ret2
        exact ⟨HB3.out, .inr ⟨HCT.out, g, hgw, R1.out, rfl⟩⟩
  · have HVn := hideIt (show toldV n = .iface 23 (.int .i64 n) from by simp [toldV, hn])
    rw [HVn.out]
    go_wp2
    go_ret2
    exact ⟨HB1.out, .inl ⟨n, hn, HCT.out, by rw [HVn.out]; rfl⟩⟩

end Go.Proofs.YtfojmbbhcmeejaaDoor
