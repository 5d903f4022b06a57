/-
  Package lock's run: who waits for whom, as a graph; who is ended; walked.
  Package lock's run: one waits, walked.
  Chapter 13 in plain Lean: the program's own state (the locks that are held, crowds as bits) against the document's.
-/
import Derived.Test.YthmiocbihhbdpaaDoorDfWZ
import Derived.Test.YthmiocbihhbdpaaDoorPgWZ
import Derived.Test.YthmiocbihhbdpaaDoorRnMZ
import Derived.Test.YthmiocbihhbdpaaDoorLkPZ
namespace Go.Proofs.YthmiocbihhbdpaaDoor
open Go.RowKit

section
variable {w0 W : World} {n : Nat} {p : List (List Stp)} {k : RunB} {hl dn : List Stp} {ov : Nat → Bool} {pos : Nat → Nat} {q : Nat} {g : Nat → Nat} {cnt : Nat → Nat} {vic : List Nat} {vh vd vv : Value}

set_option maxRecDepth 100000 in
set_option maxHeartbeats 8000000 in
theorem waiting_any (h : RunM w0 n p k W hl dn ov pos q g cnt vic vh vd vv) (hn : n ≤ 8) (hg : ∀ t, t < n → g t < 256) :
    Calls Tryd.prog 36 #[.pointer (some ⟨k.B, 0, none⟩)] W fun e W' => ∃ B' rb, e = .returned (.slice (some ⟨B', 0, none⟩) n n) ∧ MatAt W' W.heap.size B' n n rb (fun t u => (g t).testBit u) ∧ Below W.heap.size W W' := by
  have HRn := hideIt h
  have HG := hideIt hg
  have hmk := made_graph W n (by omega)
  have HM0 := hideIt (mat_made W n)
  have HB0 : Hid (Below W.heap.size W (W.alloc (.cells (madeCells #[.slice none 0 0] n) 52))) := belA (Below.refl _ _) _
  obtain ⟨_, _, c2, _, _, _, _⟩ := h.cells
  obtain ⟨A, hA⟩ : ∃ A : Nat → Nat → Bool, A = fun t u => (g t).testBit u := ⟨_, rfl⟩
  rw [← hA]
  have HA : Hid (∀ t u, (g t).testBit u = A t u) := fun t u => by rw [hA]
  clear h hg hA
  go_enter Tryd.func36, Tryd.ntmps36
  go_wp2
  clear hmk c2
  have HM1 : Hid (MatAt (W.alloc (.cells (madeCells #[.slice none 0 0] n) 52)) W.heap.size W.heap.size n 0 (fun _ => 0) A) := HM0.out.same fun i k hi => absurd hi (by omega)
  clear HM0
  go_loopw [14] (fun v wr => ∃ (m : Nat) (cb : Nat → Nat), m ≤ n ∧ v = .int .i64 m ∧ MatAt wr W.heap.size W.heap.size n m cb A ∧ Below W.heap.size W wr) (fun v _ => n - (intOf v).toNat)
  case atStart => exact ⟨0, _, Nat.zero_le _, rfl, HM1.out, HB0.out⟩
  case round =>
    clear HM1 HB0
    obtain ⟨m, cb, hm, rfl, hM, hb⟩ := hrel
    have HM := hideIt hM
    have HB := hideIt hb
    clear hM hb
    by_cases hmn : m < n
    · have hmn' : (m : Int) < n := by omega
      have hmk := made_bits wr n (by omega)
      have HMa := hideIt (HM.out.alloc (.cells (madeCells #[.bool false] n) 4))
      have HN1 := hideIt (bits_made wr n)
      have hBl := HM.out.lt
      have hBs := HB.out.size
      obtain ⟨ov', hov⟩ := HMa.out.room m hmn
      have hfz := HMa.out.fz m
      have HB1 : Hid (Below W.heap.size W ((wr.alloc (.cells (madeCells #[.bool false] n) 4)).setCell ⟨W.heap.size, m, none⟩ (.slice (some ⟨wr.heap.size, 0, none⟩) n n))) := (belA HB.out _).setCell (p := ⟨W.heap.size, m, none⟩) (Nat.le_refl _) _
      have HM2 : Hid (MatAt ((wr.alloc (.cells (madeCells #[.bool false] n) 4)).setCell ⟨W.heap.size, m, none⟩ (.slice (some ⟨wr.heap.size, 0, none⟩) n n)) W.heap.size W.heap.size n (m + 1) (fun i => if i = m then wr.heap.size else cb i) (midB A m 0)) :=
        (HMa.out.add hmn HN1.out hBs (by omega) (fun i hi => Nat.ne_of_lt (HM.out.row i hi).lt)).same fun i k _ _ => by
          unfold midB
          by_cases e : i = m
          · rw [if_pos e, if_pos ⟨e, Nat.zero_le _⟩]
          · rw [if_neg e, if_neg (fun h => e h.1)]
      have hh0 := HM2.out.head m (by omega)
      rw [if_pos rfl] at hh0
      rw [World.setCell_alloc_past _ _ _ _ hBl] at HM2 HB1 hh0
      clear HMa HN1 HM
      go_wp2
      clear hmk hov hfz hh0
      generalize (wr.setCell _ _).alloc _ = W2 at HB1 HM2 ⊢
      obtain ⟨cb1, HM2⟩ : ∃ cb1, Hid (MatAt W2 W.heap.size W.heap.size n (m + 1) cb1 (midB A m 0)) := ⟨_, HM2⟩
      clear HB hBl hBs
      go_loopw [28] (fun v wz => ∃ j : Nat, j ≤ n ∧ v = .int .i64 j ∧ MatAt wz W.heap.size W.heap.size n (m + 1) cb1 (midB A m j) ∧ Below W.heap.size W wz) (fun v _ => n - (intOf v).toNat)
      case atStart => exact ⟨0, Nat.zero_le _, rfl, HM2.out, HB1.out⟩
      case round =>
        clear HM2 HB1
        obtain ⟨j, hj, rfl, hM, hb⟩ := hrel
        have HM := hideIt hM
        have HB := hideIt hb
        clear hM hb
        by_cases hjn : j < n
        · have hjn' : (j : Int) < n := by omega
          have c0 := HM.out.head m (by omega)
          have c1 := (HM.out.row m (by omega)).bit j hjn
          have z1 := (HM.out.row m (by omega)).fz j
          have hge := (HM.out.from_ m (by omega)).1
          have HRw := HRn.out.below HB.out
          obtain ⟨_, _, _, d3, _, _, _⟩ := HRw.cells
          have hlk := (HRw.map.block (w' := wr.drew) rfl).look hn hmn
          have HHs := hideIt (fun Z => has_any (g m) j Z (HG.out m hmn) (by omega))
          have HPut : Hid (MatAt (wr.setCell ⟨cb1 m, j, none⟩ (.bool ((g m).testBit j))) W.heap.size W.heap.size n (m + 1) cb1 (midB A m (j + 1)) ∧ Below W.heap.size W (wr.setCell ⟨cb1 m, j, none⟩ (.bool ((g m).testBit j)))) :=
            ⟨(HM.out.put (by omega) hjn _).same fun i b _ _ => midB_put A m j _ (HA.out m j).symm i b, HB.out.setCell (p := ⟨cb1 m, j, none⟩) hge _⟩
          generalize midB A m j m j = old at c1
          clear HM HB HRw
          go_upto_region 9 with fail
          go_region_with (go_at_call 44; refine (HHs.out _).mono ?_; rintro e w2 ⟨rfl, rfl⟩)
          all_goals
            go_wp2
            go_roundw
            case rel => exact ⟨j + 1, by omega, by go_num, HPut.out.1.below (by repeat (first | exact Below.refl _ _ | refine Below.drew ?_)), belJ HPut.out.2 (by repeat (first | exact Below.refl _ _ | refine Below.drew ?_))⟩
            case measure => simp [intOf]; omega
        · obtain rfl : j = n := by omega
          have R1 : Hid (MatAt wr W.heap.size W.heap.size j (m + 1) cb1 A) := HM.out.same fun i b _ hb => midB_end _ _ _ _ _ hb
          go_wp2
          go_roundw
          case rel => exact ⟨m + 1, cb1, by omega, by go_num, R1.out, HB.out⟩
          case measure => simp [intOf]; omega
    · obtain rfl : m = n := by omega
      go_wp2
      go_ret
      exact ⟨_, cb, rfl, HM.out, HB.out⟩

/-- The rows of a table of bools. -/
def rowsB (n : Nat) (A : Nat → Nat → Bool) : List (List Bool) := (List.range n).map fun t => (List.range n).map (A t)
theorem rowsB_len (n : Nat) (A : Nat → Nat → Bool) : (rowsB n A).length = n := by simp [rowsB]
theorem rowsB_mem {n : Nat} {A : Nat → Nat → Bool} {r : List Bool} (h : r ∈ rowsB n A) : r.length = n := by
  obtain ⟨t, _, rfl⟩ := List.mem_map.1 h
  simp
theorem rowsB_ck {n : Nat} (hn : n ≤ 8) (A : Nat → Nat → Bool) : ckG (rowsB n A) = 0 := by
  unfold ckG
  rw [rowsB_len, if_neg (by omega), if_pos]
  exact List.all_eq_true.2 fun r hr => by simp [rowsB_mem hr]
theorem rowsB_at {n : Nat} {A : Nat → Nat → Bool} {i j : Nat} (hi : i < n) (hj : j < n) : gB (rowsB n A) i j = A i j := by
  unfold gB rowsB
  simp [List.getD, hi, hj]
theorem grQ_mat {W : World} {base B n : Nat} {rb : Nat → Nat} {A : Nat → Nat → Bool} (h : MatAt W base B n n rb A) : GrQ W (some ⟨B, 0, none⟩) (rowsB n A) := by
  refine .inr ⟨B, 0, rfl, h.lt, fun i hi => ?_⟩
  have hi' : i < n := by rw [rowsB_len] at hi; exact hi
  have e : (rowsB n A)[i] = (List.range n).map (A i) := by simp [rowsB]
  refine ⟨_, by rw [Nat.zero_add]; exact h.head i hi', some ⟨rb i, 0, none⟩, n, ?_, ?_, .inr ⟨rb i, 0, rfl, (h.row i hi').lt, fun j hj => ?_⟩⟩
  · rw [e]; simp
  · rw [e]; simp
  · have hj' : j < n := by rw [e] at hj; simpa using hj
    rw [Nat.zero_add, (h.row i hi').bit j hj']
    simp [rowsB]
theorem war_congr {n : Nat} {R S : Nat → Nat → Bool} (h : ∀ i j, i < n → j < n → R i j = S i j) {i j : Nat} (hi : i < n) (hj : j < n) : war R n i j = war S n i j := by
  rw [Bool.eq_iff_iff, war_iff hi hj, war_iff hi hj]
  exact ⟨way_congr h, way_congr fun i k hi hk => (h i k hi hk).symm⟩
/-- Who is ended: the greatest one of those on the way round. -/
def vicN (A : Nat → Nat → Bool) (n t : Nat) : Option Nat := lastN (fun v => war A n t v && war A n v t) n
theorem lastN_succ (f : Nat → Bool) (n : Nat) : lastN f (n + 1) = if f n = true then some n else lastN f n := by
  cases h : f n <;> simp [lastN, h]
def vicV : Option Nat → Int
  | some v => (v : Int)
  | none => -1

set_option maxRecDepth 100000 in
set_option maxHeartbeats 8000000 in
theorem victim_any (h : RunM w0 n p k W hl dn ov pos q g cnt vic vh vd vv) (hn : n ≤ 8) (hg : ∀ t, t < n → g t < 256) (t : Nat) (ht : t < n) :
    Calls Tryd.prog 32 #[.pointer (some ⟨k.B, 0, none⟩), .int .i64 (t : Int)] W fun e W' => e = .returned (.int .i64 (vicV (vicN (fun t u => (g t).testBit u) n t))) ∧ Below W.heap.size W W' := by
  have HW := hideIt (waiting_any h hn hg)
  unfold vicN
  generalize (fun t u => (g t).testBit u) = A at HW ⊢
  have HCl : Hid (∀ W' B' rb, MatAt W' W.heap.size B' n n rb A → Calls Tryd.prog 35 #[.slice (some ⟨B', 0, none⟩) n n] W' fun e w' => ∃ B2 r2, e = .returned (.tuple #[.slice (some ⟨B2, 0, none⟩) n n, .nilIface]) ∧ MatAt w' W'.heap.size B2 n n r2 (war A n) ∧ Below W'.heap.size W' w') := fun W' B' rb hM => by
    have hc := gClosed_any (rowsB n A) (some ⟨B', 0, none⟩) n W' (by rw [rowsB_len]; unfold maxLen; omega) (fun r hr => by rw [rowsB_mem hr]; unfold maxLen; omega) (grQ_mat hM)
    unfold PcTold at hc
    rw [rowsB_len, rowsB_ck hn] at hc
    refine hc.mono fun e w' ⟨v, he, h1, _, hb⟩ => ?_
    obtain ⟨B2, r2, rfl, hM2⟩ := h1 rfl
    exact ⟨B2, r2, he, hM2.same fun i j hi hj => war_congr (fun a b ha hb => rowsB_at ha hb) hi hj, hb⟩
  clear h hg
  generalize war A n = V at *
  go_enter Tryd.func32, Tryd.ntmps32
  go_wp2_with fail
  refine HW.out.mono ?_
  rintro e W1 ⟨B', rb, rfl, hM, hb1⟩
  have HC := hideIt (HCl.out W1 B' rb hM)
  have HB1 := hideIt hb1
  clear hM hb1 HW HCl
  go_wp2_with fail
  refine HC.out.mono ?_
  rintro e W2 ⟨B2, r2, rfl, hM2, hb2⟩
  have HM := hideIt hM2
  have HB := hideIt (belJ HB1.out hb2)
  clear hM2 hb2 HC HB1
  go_wp2
  go_loopw [7, 19] (fun v i wr => ∃ j : Nat, j ≤ n ∧ v = .int .i64 (vicV (lastN (fun v => V t v && V v t) j)) ∧ i = .int .i64 j ∧ wr = W2) (fun _ i _ => n - (intOf i).toNat)
  case atStart => exact ⟨0, Nat.zero_le _, rfl, rfl, rfl⟩
  case round =>
    obtain ⟨j, hj, rfl, rfl, rfl⟩ := hrel
    by_cases hjn : j < n
    · have hjn' : (j : Int) < n := by omega
      have c0 := HM.out.head t ht
      have c1 := (HM.out.row t ht).bit j hjn
      have c2 := HM.out.head j hjn
      have c3 := (HM.out.row j hjn).bit t ht
      have HS := hideIt (lastN_succ (fun v => V t v && V v t) j)
      cases hv : V t j
      · rw [hv] at c1
        rw [hv] at HS
        have R1 : Hid (lastN (fun v => V t v && V v t) (j + 1) = lastN (fun v => V t v && V v t) j) := HS.out.trans (if_neg (by simp))
        go_wp2
        go_roundw
        case rel => exact ⟨j + 1, by omega, by rw [R1.out], by go_num, trivial⟩
        case measure => simp [intOf]; omega
      · rw [hv] at c1
        rw [hv] at HS
        cases hu : V j t
        · rw [hu] at c3
          rw [hu] at HS
          have R1 : Hid (lastN (fun v => V t v && V v t) (j + 1) = lastN (fun v => V t v && V v t) j) := HS.out.trans (if_neg (by simp))
          go_wp2
          go_roundw
          case rel => exact ⟨j + 1, by omega, by rw [R1.out], by go_num, trivial⟩
          case measure => simp [intOf]; omega
        · rw [hu] at c3
          rw [hu] at HS
          have R1 : Hid (lastN (fun v => V t v && V v t) (j + 1) = some j) := HS.out.trans (if_pos (by simp))
          go_wp2
          go_roundw
          case rel => exact ⟨j + 1, by omega, by rw [R1.out]; rfl, by go_num, trivial⟩
          case measure => simp [intOf]; omega
    · obtain rfl : j = n := by omega
      go_wp2
      go_ret
      exact ⟨rfl, HB.out⟩
end
end Go.Proofs.YthmiocbihhbdpaaDoor

namespace Go.Proofs.YthmiocbihhbdpaaDoor
open Go.RowKit

section
variable {w0 W : World} {n : Nat} {p : List (List Stp)} {k : RunB} {hl dn : List Stp} {ov : Nat → Bool} {pos : Nat → Nat} {q : Nat} {g : Nat → Nat} {cnt : Nat → Nat} {vic : List Nat} {vh vd vv : Value}

/-- What is appended to those that were ended. -/
theorem vic_step (h : RunM w0 n p k W hl dn ov pos q g cnt vic vh vd vv) (hl0 : vic.length ≤ 500) (x : Nat) :
    ∃ va vc va' vc' W1, vv = .slice va vic.length vc ∧ (Builtin.append_ #[24, 24] 24 #[.slice va vic.length vc, .slice (some ⟨W.heap.size, 0, none⟩) 1 1]).run Tryd.prog (W.alloc (.cells #[.int .i64 (x : Int)] 3)) = .ok (.slice va' (vic.length + 1) vc') W1 ∧
      RunM w0 n p k (W1.setCell ⟨k.B, 6, none⟩ (.slice va' (vic.length + 1) vc')) hl dn ov pos q g cnt (vic ++ [x]) vh vd (.slice va' (vic.length + 1) vc') ∧ W1.cell? ⟨k.B, 6, none⟩ = some (.slice va vic.length vc) ∧ W1.frozen? ⟨k.B, 6, none⟩ = false := by
  have hh := h.below (belA (Below.refl _ _) (.cells #[.int .i64 (x : Int)] 3))
  have hnew := heap_alloc_new W (.cells #[.int .i64 (x : Int)] 3)
  generalize hZ : (W.alloc (.cells #[.int .i64 (x : Int)] 3)) = Z at hh hnew ⊢
  have hsz : Z.heap.size = W.heap.size + 1 := by rw [← hZ]; simp
  have hSA : Z.cell? ⟨W.heap.size, 0, none⟩ = some (.int .i64 (x : Int)) := cell_of_row _ _ _ _ 3 (0, 0) hnew
  have hs0 := h.size
  obtain ⟨va, vc, rfl⟩ := ownsRow_slice h.vic
  obtain ⟨v', W1, hr, ho, hg, hv⟩ := run_appN hh.vic hSA (by omega) (by omega) 24
  obtain ⟨va', vc', rfl⟩ := ownsRow_slice ho
  obtain ⟨t1, _⟩ := hh.tags
  have hB : W1.heap[k.B]? = _ := (hg.block _ hh.lt fun e => ne_tag (own_tag hh.vic e.symm) t1 (by decide) rfl).trans hh.blk
  unfold runO at hB
  refine ⟨va, vc, va', vc', W1, rfl, hr, hh.putV ho hg hv, ?_, frozen_of_row _ _ _ _ 66 hB⟩
  rw [cell_of_row _ _ _ _ 66 _ hB]
  rfl

/-- What wait leaves: one is ended, or none. -/
def WaTold (w0 : World) (n : Nat) (p : List (List Stp)) (k : RunB) (hl dn : List Stp) (ov : Nat → Bool) (pos : Nat → Nat) (q : Nat) (g cnt : Nat → Nat) (vic : List Nat) (o : Option Nat) (W' : World) : Prop :=
  match o with
  | some v => ∃ vh vd vv, RunM w0 n p k W' (hl.filter fun d => !(d.p == (v : Int))) (dn ++ [⟨(v : Int), 4, 0⟩]) (upd ov v true) pos q (upd g v 0) cnt (vic ++ [v]) vh vd vv
  | none => ∃ vh vd vv, RunM w0 n p k W' hl dn ov pos q g cnt vic vh vd vv

set_option maxRecDepth 100000 in
set_option maxHeartbeats 8000000 in
theorem wait_any (h : RunM w0 n p k W hl dn ov pos q g cnt vic vh vd vv) (hn : n ≤ 8) (hg : ∀ t, t < n → g t < 256) (hl0 : hl.length ≤ 500) (hd0 : dn.length ≤ 500) (hv0 : vic.length ≤ 500) (hq : q < 1000) (t : Nat) (ht : t < n) (hc : cnt t ≤ 100000) (m : Nat) (hm : m < 256) :
    Calls Tryd.prog 25 #[.pointer (some ⟨k.B, 0, none⟩), .int .i64 (t : Int), .int .u64 (m : Int)] W fun e W' => e = .returned (.tuple #[]) ∧ WaTold w0 n p k hl dn ov pos (q + 1) (upd g t m) (upd cnt t (cnt t + 1)) vic (vicN (fun a b => (upd g t m a).testBit b) n t) W' := by
  obtain ⟨W1, hr1, hm1, hg1⟩ := h.map.store hn hq ht m
  have H1 := hideIt (h.putM hm1 hg1)
  have hgg : ∀ a, a < n → upd g t m a < 256 := fun a ha => by
    by_cases e : a = t
    · subst e; rw [upd_same]; exact hm
    · rw [upd_ne _ _ e]; exact hg a ha
  obtain ⟨_, _, _, c3, _, _, _⟩ := h.cells
  obtain ⟨_, _, _, _, _, d5, _⟩ := H1.out.cells
  have n0 := H1.out.cnt.num t ht
  have n1 := H1.out.cnt.fz t
  have H2 := hideIt (H1.out.putC ht (cnt t + 1))
  have hcast : ((cnt t + 1 : Nat) : Int) = (cnt t : Int) + 1 := by omega
  rw [hcast] at H2
  have HVi := hideIt (victim_any H2.out hn hgg t ht)
  unfold vicN at HVi ⊢
  have HLa : Hid (∀ v, lastN (fun v => war (fun a b => (upd g t m a).testBit b) n t v && war (fun a b => (upd g t m a).testBit b) n v t) n = some v → v < n) := fun v hv => (lastN_some hv).1
  generalize lastN (fun v => war (fun a b => (upd g t m a).testBit b) n t v && war (fun a b => (upd g t m a).testBit b) n v t) n = o at HVi HLa ⊢
  unfold WaTold
  clear h hm1 hg1 H1 hcast hg
  go_enter Tryd.func25, Tryd.ntmps25
  go_wp2_with fail
  refine HVi.out.mono ?_
  rintro e W3 ⟨rfl, hb3⟩
  have H3 := hideIt (H2.out.below hb3)
  clear HVi hb3 H2 hr1 c3 d5 n0 n1
  cases o with
  | none =>
    have hv : vicV none = -1 := rfl
    rw [hv]
    go_wp2
    go_end0
    exact ⟨rfl, _, _, _, H3.out⟩
  | some v =>
    have hvn := HLa.out v rfl
    have hv : vicV (some v) = (v : Int) := rfl
    rw [hv]
    have hne : ((v : Int) != -1) = true := by rw [bne_iff_ne]; omega
    have HE := hideIt (endP_any H3.out hn hl0 hd0 v hvn 4)
    clear H3
    go_wp2_with fail
    refine HE.out.mono ?_
    rintro e W4 ⟨rfl, vh', vd', h4⟩
    clear HE
    obtain ⟨va, vc, va', vc', W5, rfl, hr5, h5, d0, d1⟩ := vic_step h4 hv0 v
    have c6 := h4.cells.2.2.2.2.2.2
    have hlt4 := h4.lt
    have hx1 : ¬ k.B = W4.heap.size := by omega
    have hx2 : ¬ W4.heap.size = k.B := by omega
    have HR5 := hideIt hr5
    have H5 := hideIt h5
    clear h4 hr5 h5
    go_wp2_with (at_builtin; refine wpList_append_run _ rfl _ _ 24 rfl _ _ _ W5 rfl rfl HR5.out ?_)
    go_end0
    exact ⟨rfl, _, _, _, H5.out⟩
end
end Go.Proofs.YthmiocbihhbdpaaDoor

namespace Go.Proofs.YthmiocbihhbdpaaDoor

/-- The locks that are held: what was done by those that are not over. -/
def heldL (st : LkS) : List Stp := st.done.filter fun d => decide (d.k < 3) && !st.ov d.p.toNat
theorem held_mem {st : LkS} {d : Stp} (h : d ∈ heldL st) : d ∈ st.done ∧ d.k < 3 ∧ st.ov d.p.toNat = false := by
  obtain ⟨h1, h2⟩ := List.mem_filter.1 h
  simp at h2
  exact ⟨h1, h2⟩
theorem held_len (st : LkS) : (heldL st).length ≤ st.done.length := List.length_filter_le _ _
section
variable {p : List (List Stp)} {n : Nat} {st : LkS}
theorem LkI.done_at (h : LkI p n st) {d : Stp} (hd : d ∈ st.done) : (∃ t : Nat, t < n ∧ d.p = (t : Int)) ∧ fltR d = 0 := by
  obtain ⟨i, hi, e⟩ := List.getElem_of_mem hd
  have h1 := h.dp i hi
  have h2 := h.ok i hi
  rw [stZ_at hi, e] at h1 h2
  exact ⟨h1, h2⟩
theorem LkI.held_p (h : LkI p n st) {d : Stp} (hd : d ∈ heldL st) : 0 ≤ d.p ∧ d.p ≤ 7 := by
  obtain ⟨_, h2⟩ := h.done_at (held_mem hd).1
  unfold fltR at h2
  split at h2
  · cases h2
  · omega
theorem flt_kind {d : Stp} (h : fltR d = 0) : 1 ≤ d.k ∧ d.k ≤ 4 := by
  unfold fltR at h
  split at h
  · cases h
  · split at h
    · cases h
    · omega
/-- Who stands against a step: of the locks that are held, and of what was done. -/
theorem LkI.held_ag (h : LkI p n st) {s : Stp} {t : Nat} (hp : s.p = (t : Int)) (hk : s.k = 1 ∨ s.k = 2) (u : Nat) : agN (heldL st) s u = agst st t s u := by
  unfold agN agst heldL
  rw [List.any_filter, Bool.eq_iff_iff, List.any_eq_true, List.any_eq_true]
  refine ⟨fun ⟨d, hd, hx⟩ => ⟨d, hd, ?_⟩, fun ⟨d, hd, hx⟩ => ⟨d, hd, ?_⟩⟩
  · obtain ⟨⟨v, hv, e⟩, hf⟩ := h.done_at hd
    have hkd := flt_kind hf
    unfold agD at hx
    unfold agB
    simp only [Bool.and_eq_true, Bool.or_eq_true, decide_eq_true_eq, Bool.not_eq_true', beq_iff_eq, bne_iff_ne] at hx ⊢
    obtain ⟨⟨a1, a2⟩, a3, a4, a5, a6⟩ := hx
    have e2 : d.p.toNat = u := by omega
    rw [e2] at a2
    exact ⟨⟨a3, by omega, a2⟩, ⟨a5, a1⟩, by omega⟩
  · obtain ⟨⟨v, hv, e⟩, hf⟩ := h.done_at hd
    have hkd := flt_kind hf
    unfold agB at hx
    unfold agD
    simp only [Bool.and_eq_true, Bool.or_eq_true, decide_eq_true_eq, Bool.not_eq_true', beq_iff_eq, bne_iff_ne] at hx ⊢
    obtain ⟨⟨a3, a4, a2⟩, ⟨a5, a1⟩, a6⟩ := hx
    have e2 : d.p.toNat = u := by omega
    rw [e2]
    exact ⟨⟨a1, a2⟩, a3, by omega, a5, by omega⟩
theorem LkI.agst_lt (h : LkI p n st) {s : Stp} {t u : Nat} (ha : agst st t s u = true) : u < n := by
  unfold agst at ha
  obtain ⟨d, hd, hx⟩ := List.any_eq_true.1 ha
  obtain ⟨⟨v, hv, e⟩, _⟩ := h.done_at hd
  simp only [Bool.and_eq_true, beq_iff_eq] at hx
  have := hx.1.1
  omega
theorem held_do {t : Nat} {s : Stp} (hp : s.p = (t : Int)) (hk : s.k < 3) (ho : st.ov t = false) : heldL (doS st t s) = heldL st ++ [s] := by
  show (st.done ++ [s]).filter (fun d => decide (d.k < 3) && !st.ov d.p.toNat) = _
  rw [List.filter_append]
  congr 1
  simp [hp, hk, ho]
theorem LkI.held_end (h : LkI p n st) {t : Nat} {kd : Int} (hk : 3 ≤ kd) : heldL (endS st t kd) = (heldL st).filter fun d => !(d.p == (t : Int)) := by
  show (st.done ++ [(⟨(t : Int), kd, 0⟩ : Stp)]).filter (fun d => decide (d.k < 3) && !(upd st.ov t true) d.p.toNat) = _
  unfold heldL
  rw [List.filter_append, List.filter_filter]
  have e1 : ([⟨(t : Int), kd, 0⟩] : List Stp).filter (fun d => decide (d.k < 3) && !(upd st.ov t true) d.p.toNat) = [] := by
    have : ¬ kd < 3 := by omega
    simp [this]
  rw [e1, List.append_nil]
  refine List.filter_congr fun d hd => ?_
  obtain ⟨⟨v, hv, e⟩, _⟩ := h.done_at hd
  have e2 : d.p.toNat = v := by omega
  rw [e2, e]
  by_cases ev : v = t
  · subst ev; rw [upd_same]; simp
  · rw [upd_ne _ _ ev]
    have : ¬ (v : Int) = (t : Int) := by omega
    simp [this]

/-- Crowds that tell who waits for whom. -/
def WtG (n : Nat) (g : Nat → Nat) (wt : Nat → Nat → Bool) : Prop := ∀ t, t < n → g t < 256 ∧ ∀ u, u < 8 → (g t).testBit u = wt t u
theorem WtG.put {g : Nat → Nat} {wt : Nat → Nat → Bool} (h : WtG n g wt) (t : Nat) {m : Nat} (hm : m < 256) {f : Nat → Bool} (hf : ∀ u, u < 8 → m.testBit u = f u) : WtG n (upd g t m) (upd wt t f) := fun a ha => by
  by_cases e : a = t
  · subst e; rw [upd_same, upd_same]; exact ⟨hm, hf⟩
  · rw [upd_ne _ _ e, upd_ne _ _ e]; exact h a ha
theorem WtG.none {g : Nat → Nat} {wt : Nat → Nat → Bool} (h : WtG n g wt) (t : Nat) : WtG n (upd g t 0) (upd wt t fun _ => false) := h.put t (by decide) fun u _ => by simp
theorem upd_twice {α : Type} (f : Nat → α) (t : Nat) (x y : α) : upd (upd f t x) t y = upd f t y := by
  funext a
  by_cases e : a = t
  · subst e; rw [upd_same, upd_same]
  · rw [upd_ne _ _ e, upd_ne _ _ e, upd_ne _ _ e]
theorem war_rel {n : Nat} {R S : Nat → Nat → Bool} (h : ∀ i j, i < n → j < n → R i j = S i j) {i j : Nat} (hi : i < n) (hj : j < n) : war R n i j = war S n i j := by
  rw [Bool.eq_iff_iff, war_iff hi hj, war_iff hi hj]
  exact ⟨way_congr h, way_congr fun i k hi hk => (h i k hi hk).symm⟩
/-- A crowd that is empty tells that nobody stands against a step. -/
theorem LkI.crowd_any (h : LkI p n st) (hn : n ≤ 8) {s : Stp} {t m : Nat} (hm : m < 256) (hb : ∀ u, u < 8 → m.testBit u = agst st t s u) : (List.range n).any (agst st t s) = decide (m ≠ 0) := by
  by_cases e : m = 0
  · subst e
    rw [decide_eq_false (by simp)]
    refine List.any_eq_false.2 fun u hu => ?_
    rw [List.mem_range] at hu
    rw [← hb u (by omega)]
    simp
  · rw [decide_eq_true e]
    obtain ⟨u, hu⟩ := Nat.exists_testBit_of_ne_zero e
    have hu8 : u < 8 := by
      refine Nat.lt_of_not_le fun hle => ?_
      rw [Nat.testBit_lt_two_pow (x := m) (i := u) (Nat.lt_of_lt_of_le hm (Nat.pow_le_pow_right (n := 2) (by decide) hle))] at hu
      cases hu
    rw [hb u hu8] at hu
    exact List.any_eq_true.2 ⟨u, List.mem_range.2 (h.agst_lt hu), hu⟩
/-- Who is ended, by crowds. -/
theorem vic_crowd (hn : n ≤ 8) {g : Nat → Nat} (hg : WtG n g st.wt) {t : Nat} (ht : t < n) : lastN (fun v => war (fun t u => (g t).testBit u) n t v && war (fun t u => (g t).testBit u) n v t) n = lastN (onB st n t) n :=
  lastN_congr fun v hv => by
    unfold onB
    rw [war_rel (fun i j hi hj => (hg i hi).2 j (by omega)) ht hv, war_rel (fun i j hi hj => (hg i hi).2 j (by omega)) hv ht]
/-- One that waits goes on so. -/
theorem goS_wait {t : Nat} (ht : t < n) (ho : st.ov t = false) (hp : st.pos t ≠ (plN p t).length) (ha : (List.range n).any (agst st t (nxS p st t)) = true) :
    goS p n st t = match lastN (onB (waS st t (nxS p st t)) n t) n with
      | some v => viS (waS st t (nxS p st t)) v
      | none => waS st t (nxS p st t) := by
  unfold goS
  rw [if_neg (by rw [ho]; simp), if_neg hp, if_neg (by rw [ha]; simp)]
  cases hw : war (waS st t (nxS p st t)).wt n t t
  · rw [if_neg (by simp)]
    have : lastN (onB (waS st t (nxS p st t)) n t) n = none := lastN_no fun v hv => by
      unfold onB
      cases h1 : war (waS st t (nxS p st t)).wt n t v
      · rfl
      · cases h2 : war (waS st t (nxS p st t)).wt n v t
        · rfl
        · have := (war_iff ht ht).2 (((war_iff ht hv).1 h1).trans ((war_iff hv ht).1 h2))
          rw [hw] at this
          cases this
    rw [this]
  · rw [if_pos rfl]
    cases lastN (onB (waS st t (nxS p st t)) n t) n <;> rfl
theorem goS_do {t : Nat} (ho : st.ov t = false) (hp : st.pos t ≠ (plN p t).length) (ha : (List.range n).any (agst st t (nxS p st t)) = false) : goS p n st t = doS st t (nxS p st t) := by
  unfold goS
  rw [if_neg (by rw [ho]; simp), if_neg hp, if_pos ha]
theorem goS_end {t : Nat} (ho : st.ov t = false) (hp : st.pos t = (plN p t).length) : goS p n st t = endS st t 3 := by
  unfold goS
  rw [if_neg (by rw [ho]; simp), if_pos hp]
theorem goS_over {t : Nat} (ho : st.ov t = true) : goS p n st t = st := by
  unfold goS
  rw [if_pos ho]
end
end Go.Proofs.YthmiocbihhbdpaaDoor
