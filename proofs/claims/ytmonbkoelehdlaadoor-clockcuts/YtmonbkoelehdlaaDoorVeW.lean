/-
  Package clock's Join and Within, walked.
-/
import Derived.Test.YtmonbkoelehdlaaDoorBas
import Derived.Deep.MidRow
import Derived.Laws.ResultCell
namespace Go.Proofs.YtmonbkoelehdlaaDoor
open Go.RowKit

theorem idx45 (v : Nat → Int) (w : World) : ∀ q : Nat, q < 8 → (Instr.index 45 (vecA v) (.int .i64 (q : Int))).run Tryd.prog w = .ok (.int .i64 (v q)) w :=
  all8 (by kernel_rfl) (by kernel_rfl) (by kernel_rfl) (by kernel_rfl) (by kernel_rfl) (by kernel_rfl) (by kernel_rfl) (by kernel_rfl)

/-- A vector in memory. -/
def VecIn (w : World) (g off : Nat) (v : Nat → Int) : Prop := ∀ q, q < 8 → w.cell? ⟨g, off + q, none⟩ = some (.int .i64 (v q))
theorem VecIn.eight {w : World} {g off : Nat} {v : Nat → Int} (h : VecIn w g off v) : w.cell? ⟨g, off, none⟩ = some (.int .i64 (v 0)) ∧ w.cell? ⟨g, off + 1, none⟩ = some (.int .i64 (v 1)) ∧ w.cell? ⟨g, off + 2, none⟩ = some (.int .i64 (v 2)) ∧ w.cell? ⟨g, off + 3, none⟩ = some (.int .i64 (v 3)) ∧ w.cell? ⟨g, off + 4, none⟩ = some (.int .i64 (v 4)) ∧ w.cell? ⟨g, off + 5, none⟩ = some (.int .i64 (v 5)) ∧ w.cell? ⟨g, off + 6, none⟩ = some (.int .i64 (v 6)) ∧ w.cell? ⟨g, off + 7, none⟩ = some (.int .i64 (v 7)) :=
  ⟨h 0 (by omega), h 1 (by omega), h 2 (by omega), h 3 (by omega), h 4 (by omega), h 5 (by omega), h 6 (by omega), h 7 (by omega)⟩
theorem VecIn.below {B : Nat} {w w' : World} {g off : Nat} {v : Nat → Int} (h : VecIn w g off v) (hb : Below B w w') (hg : g < B) : VecIn w' g off v := fun q hq => (hb.cell (p := ⟨g, off + q, none⟩) hg).trans (h q hq)
theorem VecIn.same {w : World} {g off : Nat} {v u : Nat → Int} (h : VecIn w g off v) (e : ∀ q, q < 8 → v q = u q) : VecIn w g off u := fun q hq => by rw [← e q hq]; exact h q hq
def vecO (v : Nat → Int) (t : Nat) : Obj := .cells #[.int .i64 (v 0), .int .i64 (v 1), .int .i64 (v 2), .int .i64 (v 3), .int .i64 (v 4), .int .i64 (v 5), .int .i64 (v 6), .int .i64 (v 7)] t
theorem vecIn_new (w : World) (v : Nat → Int) (t : Nat) : VecIn (w.alloc (vecO v t)) w.heap.size 0 v := fun q hq => by
  unfold vecO
  rw [Nat.zero_add, cell_of_row _ w.heap.size q _ t _ (heap_alloc_new w _)]
  exact all8 (P := fun q => (#[Value.int .i64 (v 0), .int .i64 (v 1), .int .i64 (v 2), .int .i64 (v 3), .int .i64 (v 4), .int .i64 (v 5), .int .i64 (v 6), .int .i64 (v 7)])[q]? = some (.int .i64 (v q))) rfl rfl rfl rfl rfl rfl rfl rfl q hq
theorem VecIn.alloc {w : World} {g off : Nat} {v : Nat → Int} (h : VecIn w g off v) (o : Obj) : VecIn (w.alloc o) g off v := fun q hq => by
  have := h q hq
  rw [World.cell?_alloc_lt _ _ ⟨g, off + q, none⟩ (World.block_lt_of_cell? w _ this)]
  exact this
theorem offN {g a b : Nat} (h : a ≠ b) : (⟨g, a, none⟩ : Addr) ≠ ⟨g, b, none⟩ := fun e => h (by injection e)
theorem VecIn.put {w : World} {g off : Nat} {v : Nat → Int} (h : VecIn w g off v) {m : Nat} (hm : m < 8) (x : Int) : VecIn (w.setCell ⟨g, off + m, none⟩ (.int .i64 x)) g off (fun q => if q = m then x else v q) := fun q hq => by
  by_cases e : q = m
  · subst e
    simp only [if_true]
    exact World.cell?_setCell_same _ _ _ (h q hq)
  · simp only [if_neg e]
    rw [World.cell?_setCell_other _ _ _ _ (offN (by omega))]
    exact h q hq

set_option maxRecDepth 100000 in
set_option maxHeartbeats 1000000 in
theorem within_any (v u : Nat → Int) (w : World) : Calls Tryd.prog 42 #[vecA v, vecA u] w fun e w' => e = .returned (.bool (leB v u)) ∧ Below w.heap.size w w' := by
  have HN : Hid (∀ q, q < 8 → ¬ v q ≤ u q → leB v u = false) := fun q hq h => by
    cases hl : leB v u
    · rfl
    · exact absurd (leB_iff.1 hl q hq) h
  have HY : Hid ((∀ q, q < 8 → v q ≤ u q) → leB v u = true) := fun h => leB_iff.2 h
  have hix := idx45 v
  have HV : Hid (VecIn ((w.alloc (vecO v 45)).alloc (vecO u 45)) (w.heap.size + 1) 0 u) := by
    have := vecIn_new (w.alloc (vecO v 45)) u 45
    rw [World.size_alloc] at this
    exact this
  have HB : Hid (Below w.heap.size w ((w.alloc (vecO v 45)).alloc (vecO u 45))) := belA (belA (Below.refl _ _) _) _
  unfold vecO at HV HB
  unfold vecA at *
  go_enter Tryd.func42, Tryd.ntmps42
  go_wp2
  generalize hW : (w.alloc _).alloc _ = W at HV HB ⊢
  clear hW
  go_loopw [8] (fun i wr => ∃ k : Nat, k ≤ 8 ∧ i = .int .i64 k ∧ (∀ q, q < k → v q ≤ u q) ∧ wr = W) (fun i _ => 8 - (intOf i).toNat)
  case atStart => exact ⟨0, by omega, rfl, fun q hq => absurd hq (by omega), rfl⟩
  case round =>
    obtain ⟨k, hk, rfl, ha, rfl⟩ := hrel
    have HA := hideIt ha
    clear ha
    by_cases hk8 : k < 8
    · have hi := hix wr k hk8
      have hc := HV.out k hk8
      rw [Nat.zero_add] at hc
      clear hix
      by_cases hle : v k ≤ u k
      · have R1 : Hid (∀ q, q < k + 1 → v q ≤ u q) := fun q hq => by
          by_cases e : q = k
          · subst e; exact hle
          · exact HA.out q (by omega)
        go_wp2
        go_roundw
        case rel => exact ⟨k + 1, by omega, by go_num, R1.out, by first | rfl | trivial⟩
        case measure => simp [intOf]; omega
      · go_wp2
        go_ret
        exact ⟨ret_bool (HN.out k hk8 hle).symm, HB.out⟩
    · clear hix
      go_wp2
      go_ret
      exact ⟨ret_bool (HY.out fun q hq => HA.out q (by omega)).symm, HB.out⟩

/-- A vector in a block of its own. -/
structure VecB (w : World) (g : Nat) (v : Nat → Int) : Prop where
  blk : ∃ cur t, w.heap[g]? = some (.cells cur t (0, 0))
  at_ : VecIn w g 0 v
theorem VecB.lt {w : World} {g : Nat} {v : Nat → Int} (h : VecB w g v) : g < w.heap.size := by
  obtain ⟨cur, t, hc⟩ := h.blk
  exact lt_of_heap hc
theorem VecB.fz {w : World} {g : Nat} {v : Nat → Int} (h : VecB w g v) (i : Nat) : w.frozen? ⟨g, i, none⟩ = false := by
  obtain ⟨cur, t, hc⟩ := h.blk
  exact frozen_of_row w g i cur t hc
theorem VecB.same {w : World} {g : Nat} {v u : Nat → Int} (h : VecB w g v) (e : ∀ q, q < 8 → v q = u q) : VecB w g u := ⟨h.blk, h.at_.same e⟩
theorem VecB.block {w w' : World} {g : Nat} {v : Nat → Int} (h : VecB w g v) (hb : w'.heap[g]? = w.heap[g]?) : VecB w' g v := by
  obtain ⟨cur, t, hc⟩ := h.blk
  exact ⟨⟨cur, t, hb.trans hc⟩, fun k hk => (World.cell?_of_block (a := ⟨g, 0 + k, none⟩) hb).trans (h.at_ k hk)⟩
theorem VecB.below {B : Nat} {w w' : World} {g : Nat} {v : Nat → Int} (h : VecB w g v) (hb : Below B w w') (hg : g < B) : VecB w' g v := h.block (hb.block g hg)
theorem VecB.other {w : World} {g : Nat} {v : Nat → Int} (h : VecB w g v) {p : Addr} (hp : g ≠ p.block) (x : Value) : VecB (w.setCell p x) g v := h.block (Below.heap_setCell w p x g hp)
theorem VecB.put {w : World} {g : Nat} {v : Nat → Int} (h : VecB w g v) {m : Nat} (hm : m < 8) (x : Int) : VecB (w.setCell ⟨g, m, none⟩ (.int .i64 x)) g (fun q => if q = m then x else v q) := by
  obtain ⟨cur, t, hc⟩ := h.blk
  obtain ⟨cur', hc', _⟩ := heap_setCell hc m (.int .i64 x)
  have := h.at_.put hm x
  rw [Nat.zero_add] at this
  exact ⟨⟨cur', t, hc'⟩, this⟩
theorem VecB.alloc {w : World} {g : Nat} {v : Nat → Int} (h : VecB w g v) (o : Obj) : VecB (w.alloc o) g v := h.below ((Below.refl _ _).alloc (Nat.le_refl _) o) h.lt
theorem vecB_new (w : World) (v : Nat → Int) (t : Nat) : VecB (w.alloc (vecO v t)) w.heap.size v := ⟨⟨_, t, heap_alloc_new w _⟩, vecIn_new w v t⟩
theorem VecB.eight {w : World} {g : Nat} {v : Nat → Int} (h : VecB w g v) : w.cell? ⟨g, 0, none⟩ = some (.int .i64 (v 0)) ∧ w.cell? ⟨g, 1, none⟩ = some (.int .i64 (v 1)) ∧ w.cell? ⟨g, 2, none⟩ = some (.int .i64 (v 2)) ∧ w.cell? ⟨g, 3, none⟩ = some (.int .i64 (v 3)) ∧ w.cell? ⟨g, 4, none⟩ = some (.int .i64 (v 4)) ∧ w.cell? ⟨g, 5, none⟩ = some (.int .i64 (v 5)) ∧ w.cell? ⟨g, 6, none⟩ = some (.int .i64 (v 6)) ∧ w.cell? ⟨g, 7, none⟩ = some (.int .i64 (v 7)) := by
  simpa using h.at_.eight
theorem VecB.at' {w : World} {g : Nat} {v : Nat → Int} (h : VecB w g v) {q : Nat} (hq : q < 8) : w.cell? ⟨g, q, none⟩ = some (.int .i64 (v q)) := by
  have := h.at_ q hq
  rwa [Nat.zero_add] at this

def vecL (v : Nat → Int) : List Value := [.int .i64 (v 0), .int .i64 (v 1), .int .i64 (v 2), .int .i64 (v 3), .int .i64 (v 4), .int .i64 (v 5), .int .i64 (v 6), .int .i64 (v 7)]
theorem vecL_at (v : Nat → Int) {j : Nat} {u : Value} (h : (vecL v)[j]? = some u) : j < 8 ∧ u = .int .i64 (v j) := by
  have hj : j < 8 := (List.getElem?_eq_some_iff.1 h).1
  refine ⟨hj, ?_⟩
  have := all8 (P := fun j => (vecL v)[j]? = some (.int .i64 (v j))) rfl rfl rfl rfl rfl rfl rfl rfl j hj
  rw [this] at h
  exact (Option.some.inj h).symm
theorem VecIn.range {w : World} {g off : Nat} {v : Nat → Int} (h : VecIn w g off v) : w.rangeAt g off (vecL v) := fun j u hu => by
  obtain ⟨hj, rfl⟩ := vecL_at v hu
  exact h j hj
theorem load45 {w : World} {g off : Nat} {v : Nat → Int} (h : VecIn w g off v) : (loadVar 45 ⟨g, off, none⟩).run Tryd.prog w = .ok (vecA v) w :=
  run_loadVar_mid w g off 45 (vecL v) _ h.range Tryd.underlying45 rfl (by kernel_rfl)
theorem VecB.store {w : World} {g : Nat} {v : Nat → Int} (h : VecB w g v) (u : Nat → Int) : VecB (w.setCells g 0 (vecL u)) g u :=
  ((((((((h.put (m := 0) (by omega) (u 0)).put (m := 1) (by omega) (u 1)).put (m := 2) (by omega) (u 2)).put (m := 3) (by omega) (u 3)).put (m := 4) (by omega) (u 4)).put (m := 5) (by omega) (u 5)).put (m := 6) (by omega) (u 6)).put (m := 7) (by omega) (u 7)).same
    (all8 rfl rfl rfl rfl rfl rfl rfl rfl)
theorem results_one {fn : Func} {p : Tmp} {ty : TypeId} (h : fn.results = #[.cell p ty]) (tmps : Array Value) (w : World) (g : Nat) (v : Value)
    (hp : tmps.getD p undef = .pointer (some ⟨g, 0, none⟩)) (hl : (loadVar ty ⟨g, 0, none⟩).run Tryd.prog w = .ok v w) : (results fn tmps).run Tryd.prog w = .ok v w := by
  have hp' : tmps[p]?.getD undef = .pointer (some ⟨g, 0, none⟩) := by simpa using hp
  simp [results, h, hp', asAddr, hl]

def joinV (v u : Nat → Int) (q : Nat) : Int := if v q < u q then u q else v q
set_option maxRecDepth 100000 in
set_option maxHeartbeats 2000000 in
theorem join_any (v u : Nat → Int) (w : World) : Calls Tryd.prog 31 #[vecA v, vecA u] w fun e w' => e = .returned (vecA (joinV v u)) ∧ Below w.heap.size w w' := by
  have hix := idx45 u
  have HV : Hid (VecB (((w.alloc (vecO v 45)).alloc (vecO u 45)).alloc (vecO (fun _ => 0) 45)) w.heap.size v) := ((vecB_new w v 45).alloc _).alloc _
  have HR : Hid (VecB (((w.alloc (vecO v 45)).alloc (vecO u 45)).alloc (vecO (fun _ => 0) 45)) (w.heap.size + 1 + 1) (fun _ => 0)) := by
    have := vecB_new ((w.alloc (vecO v 45)).alloc (vecO u 45)) (fun _ => 0) 45
    rw [World.size_alloc, World.size_alloc] at this
    exact this
  have HB : Hid (Below w.heap.size w (((w.alloc (vecO v 45)).alloc (vecO u 45)).alloc (vecO (fun _ => 0) 45))) := belA (belA (belA (Below.refl _ _) _) _) _
  unfold vecO at HV HB HR
  unfold vecA at *
  go_enter Tryd.func31, Tryd.ntmps31
  go_wp2
  generalize hW : ((w.alloc _).alloc _).alloc _ = W at HV HB HR ⊢
  clear hW
  go_loopw [8] (fun i wr => ∃ k : Nat, k ≤ 8 ∧ i = .int .i64 k ∧ VecB wr w.heap.size (fun q => if q < k then joinV v u q else v q) ∧ VecB wr (w.heap.size + 1 + 1) (fun _ => 0) ∧ Below w.heap.size w wr) (fun i _ => 8 - (intOf i).toNat)
  case atStart => exact ⟨0, by omega, rfl, HV.out.same fun q _ => by simp, HR.out, HB.out⟩
  case round =>
    clear HV HR HB
    obtain ⟨k, hk, rfl, hv, hr, hb⟩ := hrel
    have HV := hideIt hv
    have HR := hideIt hr
    have HB := hideIt hb
    clear hr hb
    by_cases hk8 : k < 8
    · have hi := hix wr k hk8
      have hc := hv.at' hk8
      have hf := hv.fz k
      simp only [Nat.lt_irrefl, if_false] at hc
      clear hix hv
      have R1 : Hid (VecB (wr.setCell ⟨w.heap.size, k, none⟩ (.int .i64 (if v k < u k then u k else v k))) w.heap.size (fun q => if q < k + 1 then joinV v u q else v q)) := (HV.out.put hk8 _).same fun q hq => by
        by_cases e : q = k
        · subst e; simp [joinV]
        · have : q < k + 1 ↔ q < k := by omega
          simp [e, this]
      have R2 : Hid (VecB (wr.setCell ⟨w.heap.size, k, none⟩ (.int .i64 (if v k < u k then u k else v k))) (w.heap.size + 1 + 1) (fun _ => 0)) := HR.out.other (p := ⟨w.heap.size, k, none⟩) (by show w.heap.size + 1 + 1 ≠ w.heap.size; omega) _
      have R3 : Hid (Below w.heap.size w (wr.setCell ⟨w.heap.size, k, none⟩ (.int .i64 (if v k < u k then u k else v k)))) := HB.out.setCell (Nat.le_refl _) _
      go_wp2
      go_roundw
      case rel => exact ⟨k + 1, by omega, by go_num, R1.out, R2.out, R3.out⟩
      case measure => simp [intOf]; omega
    · obtain rfl : k = 8 := by omega
      clear hix hv
      have hv8 := HV.out.same (u := joinV v u) fun q hq => by simp [hq]
      obtain ⟨c0, c1, c2, c3, c4, c5, c6, c7⟩ := hv8.eight
      obtain ⟨d0, d1, d2, d3, d4, d5, d6, d7⟩ := HR.out.eight
      have hf := HR.out.fz
      go_wp2
      refine bodyPost_ret (results_one rfl _ _ _ _ rfl (load45 (HR.out.store (joinV v u)).at_)) rfl ?_
      exact ⟨rfl, HB.out.grown (grown_setCells _ (vecL (joinV v u)) 0 _) (by have := HB.out.size; omega) (fun k hk => by cases hk; omega)⟩
end Go.Proofs.YtmonbkoelehdlaaDoor
