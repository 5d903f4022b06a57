/-
  The program's clash and Graph, walked.
-/
import Derived.Test.YthmiocbihhbdpaaSkWZ
import Derived.Test.YthmiocbihhbdpaaSgW
import Derived.Test.YthmiocbihhbdpaaPgWZ
namespace Go.Proofs.Ythmiocbihhbdpaa
open Go.RowKit

set_option maxRecDepth 100000 in
set_option maxHeartbeats 2000000 in
theorem clash_any (x y : Stp) (hx : 1 ≤ x.k ∧ x.k ≤ 2) (hy : 1 ≤ y.k ∧ y.k ≤ 2) (w : World) : Calls Try.prog 28 #[x.agg, y.agg] w fun e w' => e = .returned (.bool (clB x y)) ∧ Below w.heap.size w w' := by
  have HB : Hid (Below w.heap.size w ((w.alloc (.cells #[.int .i64 x.p, .int .i64 x.k, .int .i64 x.m] 40)).alloc (.cells #[.int .i64 y.p, .int .i64 y.k, .int .i64 y.m] 40))) := belA (belA (Below.refl _ _) _) _
  have HR : Hid (clB x y = (x.p != y.p && (x.m == y.m && decide (2 < x.k + y.k)))) := rfl
  generalize clB x y = r at HR ⊢
  unfold Stp.agg
  obtain ⟨xp, xk, xm⟩ := x
  obtain ⟨yp, yk, ym⟩ := y
  dsimp only at *
  go_enter Try.func28, Try.ntmps28
  by_cases hp : xp = yp
  · have HF : Hid (r = false) := by show r = false; rw [HR.out]; simp [hp]
    subst hp
    go_wp2
    go_ret
    exact ⟨ret_bool HF.out.symm, HB.out⟩
  · have hp' : (xp != yp) = true := by simp [hp]
    by_cases hm : xm = ym
    · by_cases h1 : xk = 2
      · have HF : Hid (r = true) := by show r = true; rw [HR.out]; simp [hp, hm]; omega
        subst hm h1
        go_wp2
        go_ret
        exact ⟨ret_bool HF.out.symm, HB.out⟩
      · by_cases h2 : yk = 2
        · have HF : Hid (r = true) := by show r = true; rw [HR.out]; simp [hp, hm]; omega
          have h1' : (xk == 2) = false := by simp [h1]
          subst hm h2
          go_wp2
          go_ret
          exact ⟨ret_bool HF.out.symm, HB.out⟩
        · have HF : Hid (r = false) := by show r = false; rw [HR.out]; simp [hp, hm]; omega
          have h1' : (xk == 2) = false := by simp [h1]
          have h2' : (yk == 2) = false := by simp [h2]
          subst hm
          go_wp2
          go_ret
          exact ⟨ret_bool HF.out.symm, HB.out⟩
    · have HF : Hid (r = false) := by show r = false; rw [HR.out]; simp [hm]
      have hm' : (xm == ym) = false := by simp [hm]
      go_wp2
      go_ret
      exact ⟨ret_bool HF.out.symm, HB.out⟩

/-- What is so behind j of those that stand behind number i. -/
structure SgM (w : World) (S G : Nat) (rb : Nat → Nat) (d : List Stp) (a : Option Addr) (i Z : Nat) (x : Stp) (j : Nat) (wi : World) : Prop where
  out : ∃ A, MatAt wi w.heap.size G 8 8 rb A ∧ ∀ t u, t < 8 → u < 8 → (A t u = true ↔ SgK d i j t u)
  row : DAt wi a S d
  own : StpN wi Z x
  lt : Z < wi.heap.size
  size : S ≤ wi.heap.size
  bel : Below w.heap.size w wi
theorem SgM.below {w wi w' : World} {S G : Nat} {rb : Nat → Nat} {d : List Stp} {a : Option Addr} {i Z j : Nat} {x : Stp} (h : SgM w S G rb d a i Z x j wi) (hb : Below wi.heap.size wi w') : SgM w S G rb d a i Z x j w' := by
  obtain ⟨A, h1, h2⟩ := h.out
  exact ⟨⟨A, h1.below hb, h2⟩, h.row.below hb, h.own.below hb h.lt, Nat.lt_of_lt_of_le h.lt hb.size, Nat.le_trans h.size hb.size, belJ h.bel hb⟩
theorem SgM.skip {w wi : World} {S G : Nat} {rb : Nat → Nat} {d : List Stp} {a : Option Addr} {i Z j : Nat} {x : Stp} (h : SgM w S G rb d a i Z x j wi) (hj : i + 1 + j < d.length) (hc : clB (stZ d i) (stZ d (i + 1 + j)) = false) : SgM w S G rb d a i Z x (j + 1) wi := by
  obtain ⟨A, h1, h2⟩ := h.out
  refine ⟨⟨A, h1, fun t u ht hu => ?_⟩, h.row, h.own, h.lt, h.size, h.bel⟩
  rw [h2 t u ht hu, sgK_next hj, hc]
  simp
theorem SgM.put {w wi : World} {S G : Nat} {rb : Nat → Nat} {d : List Stp} {a : Option Addr} {i Z j : Nat} {x : Stp} (h : SgM w S G rb d a i Z x j wi) (hlo : ∀ i, i < 8 → rb i < S) (hZ : S ≤ Z) (hj : i + 1 + j < d.length) (hc : clB (stZ d i) (stZ d (i + 1 + j)) = true)
    {t u : Nat} (ht : t < 8) (hu : u < 8) (et : (stZ d i).p = (t : Int)) (eu : (stZ d (i + 1 + j)).p = (u : Int)) : SgM w S G rb d a i Z x (j + 1) (wi.setCell ⟨rb t, u, none⟩ (.bool true)).drew := by
  obtain ⟨A, h1, h2⟩ := h.out
  have hg := hlo t ht
  have hO := (h1.put ht hu true).drew
  have hD := (h.row.set hg u (.bool true))
  obtain ⟨n0, n1, n2⟩ := h.own
  have hne : rb t ≠ Z := by omega
  have hsz : S ≤ (wi.setCell ⟨rb t, u, none⟩ (.bool true)).heap.size := by simpa using h.size
  have hlt : Z < (wi.setCell ⟨rb t, u, none⟩ (.bool true)).heap.size := by simpa using h.lt
  refine ⟨⟨fun p q => if p = t ∧ q = u then true else A p q, hO, fun p q hp hq => ?_⟩, hD, ⟨(World.cell?_setCell_other _ _ _ _ (blkNe hne)).trans n0, (World.cell?_setCell_other _ _ _ _ (blkNe hne)).trans n1, (World.cell?_setCell_other _ _ _ _ (blkNe hne)).trans n2⟩, hlt, hsz, (h.bel.setCell (p := ⟨rb t, u, none⟩) (h1.from_ t ht).1 _).drew⟩
  show (if p = t ∧ q = u then true else A p q) = true ↔ _
  rw [sgK_next hj, hc, et, eu]
  by_cases e : p = t ∧ q = u
  · obtain ⟨rfl, rfl⟩ := e
    simp
  · rw [if_neg e, h2 p q hp hq]
    constructor
    · exact fun h => .inl h
    · rintro (h | ⟨h3, h4, _⟩)
      · exact h
      · exact absurd ⟨by omega, by omega⟩ e

/-- What the program's graph tells. -/
def PgTold (l : List Stp) (w : World) (e : Ending) (w' : World) : Prop :=
  ∃ v er n pl, e = .returned (.tuple #[v, er]) ∧ ErrAt w' er n pl ∧ CkS l n pl ∧ (n ≠ 0 → v = .slice none 0 0) ∧ (n = 0 → ∃ G rb A, v = .slice (some ⟨G, 0, none⟩) 8 8 ∧ MatAt w' w.heap.size G 8 8 rb A ∧ ∀ t u, t < 8 → u < 8 → (A t u = true ↔ SgK (doneL l) (doneL l).length 0 t u)) ∧ Below w.heap.size w w'

set_option maxRecDepth 100000 in
set_option maxHeartbeats 8000000 in
theorem sGraph_any (l : List Stp) (a : Option Addr) (cap : Nat) (w : World) (hmax : l.length ≤ maxLen) (hl : StpsQ w a l) :
    Calls Try.prog 14 #[.slice a l.length cap] w fun e w' => PgTold l w e w' := by
  have HL := hideIt hl
  have HC := hideIt (sCheck_any l a cap w hmax hl)
  clear hl
  unfold PgTold
  go_enter Try.func14, Try.ntmps14
  go_wp2_with fail
  refine HC.out.mono ?_
  clear HC
  rintro e w1 ⟨v1, n, pl, rfl, her, hck, hb1⟩
  have HE := hideIt her
  have HK := hideIt hck
  have HB1 := hideIt hb1
  clear her hck hb1
  by_cases hn0 : n = 0
  · subst hn0
    obtain ⟨h60, hok, rfl⟩ := HK.out.ok
    have hnil : v1 = .nilIface := by
      rcases HE.out with ⟨_, _, h⟩ | ⟨h, _⟩ | ⟨h, _⟩
      · exact h
      · exact absurd rfl h
      · exact absurd rfl h
    subst hnil
    have HOk : Hid (∀ s ∈ doneL l, (0 ≤ s.p ∧ s.p ≤ 7) ∧ (1 ≤ s.k ∧ s.k ≤ 2)) := fun s hs => by
      obtain ⟨h1, h2⟩ := List.mem_filter.1 hs
      obtain ⟨i, hi, rfl⟩ := List.getElem_of_mem h1
      have h0 := hok i hi
      obtain ⟨h3, _, h5, _⟩ := fltR_zero (fltQ_zero h0).1
      rw [stZ_at hi] at h3 h5
      unfold doneB at h2
      rw [Bool.and_eq_true, decide_eq_true_eq] at h2
      exact ⟨h3, by omega⟩
    have hdl : (doneL l).length ≤ 100 := Nat.le_trans (List.length_filter_le _ _) (by omega)
    have HDn : Hid (∀ W, Below w.heap.size w W → Calls Try.prog 27 #[.slice a l.length cap] W fun e w' => ∃ v, e = .returned v ∧ w'.ownsRow W.heap.size 40 3 v (doneL l).length (stpC (doneL l)) ∧ Below W.heap.size W w') := fun W hW => sDone_any l a cap W (by omega) (HL.out.below hW)
    clear hok HL
    obtain ⟨d, HDd⟩ : ∃ d, Hid (doneL l = d) := ⟨_, hideIt rfl⟩
    rw [HDd.out] at HOk HDn hdl
    have hmk : (Instr.makeSlice 57 (.int .i64 8) (.int .i64 8)).run Try.prog w1 = .ok (.slice (some ⟨w1.heap.size, 0, none⟩) 8 8) (w1.alloc (.cells (madeCells #[.slice none 0 0] 8) 50)) := made_graph w1 8 (by decide)
    have HM0 := hideIt ((mat_made w1 8).mono HB1.out.size)
    have HB2 : Hid (Below w.heap.size w (w1.alloc (.cells (madeCells #[.slice none 0 0] 8) 50))) := belA HB1.out _
    have hws := HB1.out.size
    go_wp2
    clear hmk
    generalize w1.alloc _ = W0 at HM0 HB2 ⊢
    generalize w1.heap.size = G at HM0 hws ⊢
    go_loopw [20] (fun v wr => ∃ (m : Nat) (rb : Nat → Nat), m ≤ 8 ∧ v = .int .i64 m ∧ MatAt wr w.heap.size G 8 m rb (fun _ _ => false) ∧ Below w.heap.size w wr) (fun v _ => 8 - (intOf v).toNat)
    case atStart => exact ⟨0, _, Nat.zero_le _, rfl, HM0.out, HB2.out⟩
    case round =>
      clear HM0 HB2
      obtain ⟨m, rb, hm, rfl, hM, hb⟩ := hrel
      have HM := hideIt hM
      have HB := hideIt hb
      clear hM hb
      by_cases hmn : m < 8
      · have hmn' : (m : Int) < 8 := by omega
        have hmk : (Instr.makeSlice 50 (.int .i64 8) (.int .i64 8)).run Try.prog wr = .ok (.slice (some ⟨wr.heap.size, 0, none⟩) 8 8) (wr.alloc (.cells (madeCells #[.bool false] 8) 4)) := made_bits wr 8 (by decide)
        have HMa := hideIt (HM.out.alloc (.cells (madeCells #[.bool false] 8) 4))
        have HN1 := hideIt (bits_made wr 8)
        have hBl := HM.out.lt
        have hBs := HB.out.size
        obtain ⟨ov, hov⟩ := HMa.out.room m hmn
        have hfz := HMa.out.fz m
        have HBx : Hid (Below w.heap.size w ((wr.alloc (.cells (madeCells #[.bool false] 8) 4)).setCell ⟨G, m, none⟩ (.slice (some ⟨wr.heap.size, 0, none⟩) 8 8))) := (belA HB.out _).setCell (p := ⟨G, m, none⟩) hws _
        have HM2 : Hid (MatAt ((wr.alloc (.cells (madeCells #[.bool false] 8) 4)).setCell ⟨G, m, none⟩ (.slice (some ⟨wr.heap.size, 0, none⟩) 8 8)) w.heap.size G 8 (m + 1) (fun i => if i = m then wr.heap.size else rb i) (fun _ _ => false)) :=
          (HMa.out.add hmn HN1.out hBs (by omega) (fun i hi => Nat.ne_of_lt (HM.out.row i hi).lt)).same fun i k _ _ => by
            by_cases e : i = m
            · rw [if_pos e]
            · rw [if_neg e]
        rw [World.setCell_alloc_past _ _ _ _ hBl] at HM2 HBx
        clear HMa HN1 HM HB
        go_wp2
        go_roundw
        case rel => exact ⟨m + 1, _, by omega, by go_num, HM2.out, HBx.out⟩
        case measure => simp [intOf]; omega
      · obtain rfl : m = 8 := by omega
        have HDc := hideIt (HDn.out wr HB.out)
        go_wp2_with fail
        refine HDc.out.mono ?_
        clear HDc
        rintro e w2 ⟨vd, rfl, how, hb2⟩
        obtain ⟨a', cap', rfl, hcd, hq⟩ := stpsQ_ownT how
        have HD2 : Hid (DAt w2 a' wr.heap.size d) := by
          rcases hq with h | ⟨b, off, rfl, h1, h2⟩
          · exact .inl h
          · exact .inr ⟨b, off, rfl, (ownsRow_block how b rfl).1, h1, h2⟩
        have HM2 := hideIt (HM.out.below hb2)
        have HB2 := hideIt (belJ HB.out hb2)
        have HSz : Hid (wr.heap.size ≤ w2.heap.size) := hb2.size
        have HLo : Hid (∀ i, i < 8 → rb i < wr.heap.size) := fun i hi => (HM.out.row i hi).lt
        have hGl := HM.out.lt
        have hww := HB.out.size
        clear how hb2 hq HM HB HDn
        generalize wr.heap.size = S at HD2 HSz HLo hGl hww ⊢
        go_wp2
        go_loopw [32] (fun c wr => ∃ (i : Nat) (A : Nat → Nat → Bool), i ≤ d.length ∧ c = .int .i64 i ∧ MatAt wr w.heap.size G 8 8 rb A ∧ (∀ t u, t < 8 → u < 8 → (A t u = true ↔ SgK d i 0 t u)) ∧ DAt wr a' S d ∧ S ≤ wr.heap.size ∧ Below w.heap.size w wr) (fun c _ => d.length - (intOf c).toNat)
        case atStart => exact ⟨0, fun _ _ => false, Nat.zero_le _, rfl, HM2.out, fun t u _ _ => ⟨fun h => (by cases h), fun h => absurd h (sgK_zero d t u)⟩, HD2.out, HSz.out, HB2.out⟩
        case round =>
          clear HM2 HD2 HSz HB2
          obtain ⟨i, A, hi, rfl, ho, hA, hd, hsz, hb⟩ := hrel
          have HO := hideIt ho
          have HA := hideIt hA
          have HD := hideIt hd
          have HB := hideIt hb
          clear ho hA hd hb
          by_cases hid : i < d.length
          · obtain ⟨b, off, rfl, hSb, hbl, hst⟩ : ∃ b off, a' = some ⟨b, off, none⟩ ∧ S ≤ b ∧ b < wr.heap.size ∧ StpsAt wr b off d := by
              rcases HD.out with h | h
              · subst h; simp at hid
              · exact h
            obtain ⟨c0, c1, c2⟩ := hst i hid
            have HX : Hid (stZ d i = d[i]) := stZ_at hid
            have hox := HOk.out d[i] (List.getElem_mem hid)
            have hid' : (i : Int) < d.length := by omega
            generalize d[i] = x at c0 c1 c2 HX hox
            clear hst
            have HSA : Hid (SgM w S G rb d (some ⟨b, off, none⟩) i wr.heap.size x 0 (wr.alloc (.cells #[.int .i64 x.p, .int .i64 x.k, .int .i64 x.m] 40))) := by
              have hb : Below wr.heap.size wr (wr.alloc (.cells #[.int .i64 x.p, .int .i64 x.k, .int .i64 x.m] 40)) := belA (Below.refl _ _) _
              exact ⟨⟨A, HO.out.below hb, HA.out⟩, HD.out.below hb, ⟨by simp, by simp, by simp⟩, by simp, by simp; omega, belA HB.out _⟩
            go_upto_region 15 with fail
            case' inl =>
                 obtain rfl : cap' = i + 1 := by assumption
                 have HS2 : Hid (∃ o2 c2, Value.slice (some ⟨b, off, none⟩) (d.length - (i + 1)) 0 = .slice (some ⟨b, o2, none⟩) (d.length - (i + 1)) c2 ∧ (o2 = off + (i + 1) * 3 ∨ d.length - (i + 1) = 0)) := ⟨_, _, rfl, .inr (by omega)⟩
                 generalize Value.slice (some ⟨b, off, none⟩) (d.length - (i + 1)) 0 = s2 at HS2 ⊢
            case' inr =>
                 have HS2 : Hid (∃ o2 c2, Value.slice (some ⟨b, off + (i + 1) * 3, none⟩) (d.length - (i + 1)) (cap' - (i + 1)) = .slice (some ⟨b, o2, none⟩) (d.length - (i + 1)) c2 ∧ (o2 = off + (i + 1) * 3 ∨ d.length - (i + 1) = 0)) := ⟨_, _, rfl, .inl rfl⟩
                 generalize Value.slice (some ⟨b, off + (i + 1) * 3, none⟩) (d.length - (i + 1)) (cap' - (i + 1)) = s2 at HS2 ⊢
            all_goals
              obtain ⟨o2, k2, rfl, ho2⟩ := HS2.out
              clear HS2 HO HD HB HA c0 c1 c2
              generalize wr.alloc (.cells #[.int .i64 x.p, .int .i64 x.k, .int .i64 x.m] 40) = WA at HSA ⊢
              generalize wr.heap.size = Z at HSA hsz hbl ⊢
              obtain ⟨m, hm⟩ : ∃ m, d.length - (i + 1) = m := ⟨_, rfl⟩
              rw [hm] at ho2 ⊢
              have hm' : i + 1 + m = d.length := by omega
              have HMd : Hid (o2 = off + (i + 1) * 3 ∨ m = 0) := ho2
              clear ho2
              have HZ1 : Hid (S ≤ Z) := hsz
              go_loopw [42] (fun c wi => ∃ j : Nat, j ≤ m ∧ c = .int .i64 j ∧ SgM w S G rb d (some ⟨b, off, none⟩) i Z x j wi) (fun c _ => m - (intOf c).toNat)
              case atStart => exact ⟨0, Nat.zero_le _, rfl, HSA.out⟩
              case round =>
                clear HSA
                obtain ⟨j, hj, rfl, hs⟩ := hrel
                have HS := hideIt hs
                clear hs
                by_cases hjm : j < m
                · try (exfalso; omega)
                  all_goals
                    have hjd : i + 1 + j < d.length := by omega
                    obtain rfl : o2 = off + (i + 1) * 3 := by have := HMd.out; omega
                    obtain ⟨hst, hbl2⟩ : StpsAt wr b off d ∧ b < wr.heap.size := by
                      rcases HS.out.row with h | ⟨b', off', e, _, h1, h2⟩
                      · subst h; simp at hid
                      · injection e with e
                        injection e with e1 e2
                        subst e1 e2
                        exact ⟨h2, h1⟩
                    obtain ⟨c0, c1, c2⟩ := hst (i + 1 + j) hjd
                    rw [Nat.add_mul, ← Nat.add_assoc] at c0 c1 c2
                    have HY : Hid (stZ d (i + 1 + j) = d[i + 1 + j]) := stZ_at hjd
                    have hoy := HOk.out d[i + 1 + j] (List.getElem_mem hjd)
                    have hjm' : (j : Int) < m := by omega
                    generalize d[i + 1 + j] = y at c0 c1 c2 HY hoy
                    clear hst
                    have hbA : Below wr.heap.size wr (wr.alloc (.cells #[.int .i64 y.p, .int .i64 y.k, .int .i64 y.m] 40)) := belA (Below.refl _ _) _
                    have HSY := hideIt (HS.out.below hbA)
                    obtain ⟨x0, x1, x2⟩ := HS.out.own
                    have hzl := HS.out.lt
                    have HCl := hideIt (clash_any x y hox.2 hoy.2 (wr.alloc (.cells #[.int .i64 y.p, .int .i64 y.k, .int .i64 y.m] 40)))
                    have hys : (wr.alloc (.cells #[.int .i64 y.p, .int .i64 y.k, .int .i64 y.m] 40)).heap.size = wr.heap.size + 1 := by simp
                    have hSw := HS.out.size
                    unfold Stp.agg at HCl
                    clear hbA HS
                    go_wp2_with fail
                    refine HCl.out.mono ?_
                    clear HCl c0 c1 c2 x0 x1 x2
                    rintro e w3 ⟨rfl, hb3⟩
                    have HS3 := hideIt (HSY.out.below hb3)
                    have y3 : w3.cell? ⟨wr.heap.size, 0, none⟩ = some (.int .i64 y.p) := (hb3.cell (p := ⟨wr.heap.size, 0, none⟩) (by rw [hys]; exact Nat.lt_succ_self _)).trans (by simp)
                    clear hb3 HSY hys
                    generalize wr.heap.size = Y at y3 hbl2 hzl hSw ⊢
                    cases hcl : clB x y
                    · have R1 := hideIt (HS3.out.skip hjd (by rw [HX.out, HY.out]; exact hcl))
                      clear hcl y3
                      go_wp2
                      go_roundw
                      case rel => exact ⟨j + 1, by omega, by go_num, R1.out⟩
                      case measure => simp [intOf]; omega
                    · obtain ⟨A', q1, q2⟩ := HS3.out.out
                      obtain ⟨t, ht⟩ := Int.eq_ofNat_of_zero_le hox.1.1
                      obtain ⟨u, hu⟩ := Int.eq_ofNat_of_zero_le hoy.1.1
                      have ht8 : t < 8 := by omega
                      have hu8 : u < 8 := by omega
                      have hlo := HLo.out t ht8
                      have HP := hideIt (HS3.out.put HLo.out HZ1.out hjd (by rw [HX.out, HY.out]; exact hcl) ht8 hu8 (by rw [HX.out]; exact ht) (by rw [HY.out]; exact hu))
                      have f0 := q1.head t ht8
                      have n2 : rb t ≠ G := (q1.from_ t ht8).2
                      have z0 := (q1.row t ht8).fz u
                      have z1 := (q1.row t ht8).bit u hu8
                      have n1 : rb t ≠ Z := by have := HZ1.out; omega
                      have n3 : rb t ≠ Y := by omega
                      have x3 := HS3.out.own.1
                      rw [ht] at x3
                      rw [hu] at y3
                      have ht8' : (t : Int) < 8 := by omega
                      have hu8' : (u : Int) < 8 := by omega
                      clear q1 q2 HS3 hcl ht hu
                      generalize A' t u = au at z1
                      clear A'
                      go_upto_region 18 with fail
                      generalize rb t = gt at *
                      refine wp_region_held_drew (S := (fun w' => w'.cell? ⟨Z, 0, none⟩ = some (.int .i64 t) ∧ w'.cell? ⟨G, t, none⟩ = some (.slice (some ⟨gt, 0, none⟩) 8 8) ∧ w'.cell? ⟨Y, 0, none⟩ = some (.int .i64 u))) (by kernel_rfl) ⟨x3, f0, y3⟩ (fun hHeld => ?_)
                      refine wpAnyH_take (i := 0) (v := ?_) rfl (by kernel_rfl) (by kernel_rfl) (by kernel_rfl) (fun _ _ _ h => h) (Or.inl ⟨by rfl, ?_⟩) (by assumption) ?_
                      rotate_left 1
                      · intro wz ⟨s0, s1, s2⟩
                        go_simp
                        all_goals with_reducible rfl
                      simp only [Act.put, List.setIfInBounds_toArray, List.set_cons_zero, List.set_cons_succ, List.getElem_toArray, List.getElem_cons_zero]
                      refine wpAnyH_take (i := 1) (v := ?_) rfl (by kernel_rfl) (by kernel_rfl) (by kernel_rfl) (fun _ _ _ h => h) (Or.inl ⟨by rfl, ?_⟩) (by assumption) ?_
                      rotate_left 1
                      · intro wz ⟨s0, s1, s2⟩
                        go_simp
                        all_goals with_reducible rfl
                      simp only [Act.put, List.setIfInBounds_toArray, List.set_cons_zero, List.set_cons_succ, List.getElem_toArray, List.getElem_cons_zero, List.getElem_cons_succ]
                      refine wpAnyH_take (i := 2) (v := ?_) rfl (by kernel_rfl) (by kernel_rfl) (by kernel_rfl) (fun _ _ _ h => h) (Or.inl ⟨by rfl, ?_⟩) (by assumption) ?_
                      rotate_left 1
                      · intro wz ⟨s0, s1, s2⟩
                        go_simp
                        all_goals with_reducible rfl
                      simp only [Act.put, List.setIfInBounds_toArray, List.set_cons_zero, List.set_cons_succ, List.getElem_toArray, List.getElem_cons_zero, List.getElem_cons_succ]
                      refine wpAnyH_take (i := 3) (v := ?_) rfl (by kernel_rfl) (by kernel_rfl) (by kernel_rfl) (fun _ _ _ h => h) (Or.inl ⟨by rfl, ?_⟩) (by assumption) ?_
                      rotate_left 1
                      · intro wz ⟨s0, s1, s2⟩
                        go_simp
                        all_goals with_reducible rfl
                      simp only [Act.put, List.setIfInBounds_toArray, List.set_cons_zero, List.set_cons_succ, List.getElem_toArray, List.getElem_cons_zero, List.getElem_cons_succ]
                      refine wpAnyH_take (i := 4) (v := ?_) rfl (by kernel_rfl) (by kernel_rfl) (by kernel_rfl) (fun _ _ _ h => h) (Or.inl ⟨by rfl, ?_⟩) (by assumption) ?_
                      rotate_left 1
                      · intro wz ⟨s0, s1, s2⟩
                        go_simp
                        all_goals with_reducible rfl
                      simp only [Act.put, List.setIfInBounds_toArray, List.set_cons_zero, List.set_cons_succ, List.getElem_toArray, List.getElem_cons_zero, List.getElem_cons_succ]
                      refine wpAnyH_take (i := 5) (v := ?_) rfl (by kernel_rfl) (by kernel_rfl) (by kernel_rfl) (fun _ _ _ h => h) (Or.inl ⟨by rfl, ?_⟩) (by assumption) ?_
                      rotate_left 1
                      · intro wz ⟨s0, s1, s2⟩
                        go_simp
                        all_goals with_reducible rfl
                      simp only [Act.put, List.setIfInBounds_toArray, List.set_cons_zero, List.set_cons_succ, List.getElem_toArray, List.getElem_cons_zero, List.getElem_cons_succ]
                      refine wpAnyH_take (i := 6) (v := ?_) rfl (by kernel_rfl) (by kernel_rfl) (by kernel_rfl) (fun _ _ _ h => h) (Or.inl ⟨by rfl, ?_⟩) (by assumption) ?_
                      rotate_left 1
                      · intro wz ⟨s0, s1, s2⟩
                        go_simp
                        all_goals with_reducible rfl
                      simp only [Act.put, List.setIfInBounds_toArray, List.set_cons_zero, List.set_cons_succ, List.getElem_toArray, List.getElem_cons_zero, List.getElem_cons_succ]
                      refine wpAnyH_take (i := 7) (v := ?_) rfl (by kernel_rfl) (by kernel_rfl) (by kernel_rfl) (fun _ _ _ h => h) (Or.inl ⟨by rfl, ?_⟩) (by assumption) ?_
                      rotate_left 1
                      · intro wz ⟨s0, s1, s2⟩
                        go_simp
                        all_goals with_reducible rfl
                      simp only [Act.put, List.setIfInBounds_toArray, List.set_cons_zero, List.set_cons_succ, List.getElem_toArray, List.getElem_cons_zero, List.getElem_cons_succ]
                      refine wpAnyH_ready (rs := [8]) (by kernel_rfl) (by simp) (AllReadyH.cons rfl (fun K hK => ?_) AllReadyH.nil)
                      go_simp
                      refine hK.out _ _ ?_ (fun hHeld => ?_)
                      · exact ⟨(World.cell?_setCell_other _ _ _ _ (blkNe n1)).trans hHeld.1, (World.cell?_setCell_other _ _ _ _ (blkNe n2)).trans hHeld.2.1, (World.cell?_setCell_other _ _ _ _ (blkNe n3)).trans hHeld.2.2⟩
                      clear hK K
                      refine wpAnyH_done (by kernel_rfl) ?_ _
                      go_wp2
                      go_roundw
                      case rel => exact ⟨j + 1, by omega, by go_num, HP.out⟩
                      case measure => simp [intOf]; omega
                · obtain rfl : j = m := by omega
                  obtain ⟨A', q1, q2⟩ := HS.out.out
                  have R1 : Hid (∃ A, MatAt wr w.heap.size G 8 8 rb A ∧ (∀ t u, t < 8 → u < 8 → (A t u = true ↔ SgK d (i + 1) 0 t u))) := ⟨A', q1, fun t u ht hu => (q2 t u ht hu).trans (sgK_over (by omega) t u)⟩
                  clear q1 q2
                  go_wp2
                  go_roundw
                  case rel =>
                    obtain ⟨A, r1, r2⟩ := R1.out
                    exact ⟨i + 1, A, by omega, by go_num, r1, r2, HS.out.row, HS.out.size, HS.out.bel⟩
                  case measure => simp [intOf]; omega
          · obtain rfl : i = d.length := by omega
            go_wp2
            go_ret2
            exact ⟨_, _, 0, -1, rfl, .inl ⟨rfl, rfl, rfl⟩, HK.out, fun h => absurd rfl h, fun _ => ⟨G, rb, A, rfl, HO.out, by rw [HDd.out]; exact HA.out⟩, HB.out⟩
  · have hne : ∃ t x, v1 = .iface t x := by
      rcases HE.out with ⟨h, _⟩ | ⟨_, _, h⟩ | ⟨_, _, g, h, _⟩
      · exact absurd h hn0
      · exact ⟨_, _, h⟩
      · exact ⟨_, _, h⟩
    obtain ⟨t, x, rfl⟩ := hne
    go_wp2
    go_ret2
    exact ⟨_, _, n, pl, rfl, HE.out, HK.out, fun _ => rfl, fun h => absurd h hn0, HB1.out⟩
end Go.Proofs.Ythmiocbihhbdpaa
