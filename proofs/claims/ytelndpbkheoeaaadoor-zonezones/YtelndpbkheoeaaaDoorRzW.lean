/-
  The document's own Zones, walked.
-/
import Derived.Test.YtelndpbkheoeaaaDoorRzA
import Derived.BigQuiet
import Derived.Deep.DeepCutAuto
namespace Go.Proofs.YtelndpbkheoeaaaDoor
open Go.RowKit

theorem size_lt_allocZ (w : World) (o : Obj) : w.heap.size < (w.alloc o).heap.size := by simp
theorem any_succ (A : List Opn) (f : Opn → Bool) (i : Nat) (hi : i < A.length) : (A.take (i + 1)).any f = ((A.take i).any f || f A[i]) := by rw [List.take_succ_eq_append_getElem hi, List.any_append]; simp
theorem zonsH_row {w : World} {base : Nat} {v : Value} {L : List Zon} (h : w.ownsRow base 37 4 v L.length (zonCells L)) (hl : L.length ≤ 100) : ZonsH w v L := by
  have h' := h
  rcases h.2 with ⟨rfl, h0⟩ | ⟨g, cap, cur, rfl, _, hh, h1, _⟩
  · exact ⟨none, 0, by rw [h0], by omega, hl, .inl (List.length_eq_zero_iff.1 h0)⟩
  · refine ⟨some ⟨g, 0, none⟩, cap, rfl, h1, hl, .inr ⟨g, rfl, (Array.getElem?_eq_some_iff.1 hh).1, fun i hi => ?_⟩⟩
    have c : ∀ c, c < 4 → w.cell? ⟨g, 0 + i * 4 + c, none⟩ = L[i].list[c]? := fun c hc => by
      rw [Nat.zero_add, h'.cellAt (i * 4 + c) (by omega), zonCells_get L i c hi hc]
    exact ⟨c 0 (by decide), c 1 (by decide), c 2 (by decide), c 3 (by decide)⟩
theorem nilNe {a : Addr} {n c : Nat} : Value.slice (some a) n c ≠ .slice none 0 0 := by simp

theorem row_below {w W : World} {base : Nat} {t : TypeId} {s n : Nat} {v : Value} {cs : List Value} (h : w.ownsRow base t s v n cs) (hb : Below w.heap.size w W) : W.ownsRow base t s v n cs := by
  obtain ⟨h1, h | ⟨g, cap, cur, rfl, hg, hh, r⟩⟩ := h
  · exact ⟨h1, .inl h⟩
  · exact ⟨h1, .inr ⟨g, cap, cur, rfl, hg, (hb.block g (Array.getElem?_eq_some_iff.1 hh).1).trans hh, r⟩⟩
theorem below_setCells {n : Nat} {w : World} (g : Nat) (hn : n ≤ g) : ∀ (vs : List Value) (o : Nat) (W : World), Below n w W → Below n w (W.setCells g o vs)
  | [], _, _, h => h
  | v :: r, o, W, h => below_setCells g hn r (o + 1) (W.setCell ⟨g, o, none⟩ v) ⟨h.os, h.tape, h.output, by simpa [World.setCell] using h.size, fun k hk => by
      rw [← h.block k hk]
      simp [World.setCell, Array.getElem?_modify, show ¬ g = k from by omega]⟩

theorem zonAt_heap {w : World} {b : Nat} {z : Zon} {t : TypeId} (h : w.heap[b]? = some (.cells #[.int .i64 z.v, .int .i64 z.lo, .int .i64 z.hi, .bool z.fw] t)) : ZonAt w b 0 z := by
  unfold ZonAt
  simp [World.cell?, h]

theorem row_src {w : World} {base g cap a : Nat} {L : List Zon} {z0 : Zon} (h : w.ownsRow base 37 4 (.slice (some ⟨g, 0, none⟩) (L.length + 1) cap) (L.length + 1) (zonCells (L ++ [z0]))) (ha : a ≤ L.length) (j : Nat) (v : Value)
    (hv : (zonCells (L.drop a))[j]? = some v) : w.cell? (Addr.add ⟨g, a * 4, none⟩ j) = some v := by
  have hj : j < (L.length - a) * 4 := by have := (List.getElem?_eq_some_iff.1 hv).1; rwa [zonCells_len, List.length_drop] at this
  have e : (Addr.add ⟨g, a * 4, none⟩ j : Addr) = ⟨g, a * 4 + j, none⟩ := by
    unfold Addr.add
    split
    · next h0 => subst h0; simp
    · simp
  rw [e, h.cellAt (a * 4 + j) (by omega)]
  have e2 : L ++ [z0] = L.take a ++ (L.drop a ++ [z0]) := by rw [← List.append_assoc, List.take_append_drop]
  have e3 : (zonCells (L.take a)).length = a * 4 := by rw [zonCells_len, List.length_take]; omega
  rw [e2, zonCells_app, List.getElem?_append_right (by omega), e3, show a * 4 + j - a * 4 = j from by omega, zonCells_app, List.getElem?_append_left (by rw [zonCells_len, List.length_drop]; omega)]
  exact hv
theorem row_is {w : World} {base g cap n : Nat} {cs : List Value} (h : w.ownsRow base 37 4 (.slice (some ⟨g, 0, none⟩) n cap) n cs) : ∃ cur : Array Value, w.heap[g]? = some (.cells cur 37) ∧ cur.size = cap * 4 ∧ n ≤ cap := by
  obtain ⟨_, h | ⟨g', c', cur, e, _, hh, h1, _, h3, _⟩⟩ := h
  · simp at h
  · obtain ⟨rfl, rfl⟩ : g = g' ∧ cap = c' := by simpa using e
    exact ⟨cur, hh, h3, h1⟩
theorem row_mid {w : World} {base g cap a : Nat} {L : List Zon} {z0 : Zon} (h : w.ownsRow base 37 4 (.slice (some ⟨g, 0, none⟩) (L.length + 1) cap) (L.length + 1) (zonCells (L ++ [z0]))) (ha : a ≤ L.length) :
    ∃ cur : Array Value, (w.setCells g ((a + 1) * 4) (zonCells (L.drop a))).heap[g]? = some (.cells cur 37) ∧ cur.size = cap * 4 := by
  obtain ⟨cur, hh, h3, h1⟩ := row_is h
  have hcs : (zonCells (L.drop a)).length = (L.length - a) * 4 := by rw [zonCells_len, List.length_drop]
  refine ⟨_, setCells_row (e := 37) (fr := (0, 0)) g (zonCells (L.drop a)) ((a + 1) * 4) w cur hh (by rw [hcs, h3]; omega), ?_⟩
  rw [List.size_toArray, overL_len (by rw [hcs]; simp [h3]; omega)]
  simpa using h3
theorem row_copy {w : World} {base g cap a : Nat} {L : List Zon} {z0 : Zon} {i0 : TypeInfo} (hi0 : Tryd.prog.info? 37 = some i0) (hz1 : i0.size = 4) (h : w.ownsRow base 37 4 (.slice (some ⟨g, 0, none⟩) (L.length + 1) cap) (L.length + 1) (zonCells (L ++ [z0]))) (ha : a ≤ L.length) (ty : TypeId) :
    (Builtin.copy_ #[23, 23] ty #[.slice (some ⟨g, (a + 1) * 4, none⟩) (L.length - a) (cap - (a + 1)), .slice (some ⟨g, a * 4, none⟩) (L.length + 1 - a) (cap - a)]).run Tryd.prog w = .ok (goInt ((L.length - a : Nat) : Int)) (w.setCells g ((a + 1) * 4) (zonCells (L.drop a))) := by
  obtain ⟨cur, hh, h3, h1⟩ := row_is h
  have hm : Nat.min (L.length + 1 - a) (L.length - a) = L.length - a := by simp [Nat.min_def]; omega
  have hl : (zonCells (L.drop a)).length = (L.length - a) * 4 := by rw [zonCells_len, List.length_drop]
  have := run_copy_cells4 (P := Tryd.prog) w 23 23 ty 37 g ((a + 1) * 4) (L.length - a) (cap - (a + 1)) ⟨g, a * 4, none⟩ (L.length + 1 - a) (cap - a) (zonCells (L.drop a)) Tryd.underlying23 (by rw [hi0]; simp [hz1]) (by rw [hm, hl]) (row_src h ha)
    (fun j hj => by
      rw [hl] at hj
      simp [World.cell?, hh]
      omega) (fun j _ => frozen_of_row w _ _ _ 37 hh) (zonCells_one _)
  rw [hm] at this
  exact this
theorem row_copy0 {i0 : TypeInfo} (hi0 : Tryd.prog.info? 37 = some i0) (hz1 : i0.size = 4) (w : World) (ty : TypeId) (d a : Option Addr) (dC sL sC : Nat) :
    (Builtin.copy_ #[23, 23] ty #[.slice d 0 dC, .slice a sL sC]).run Tryd.prog w = .ok (goInt 0) w :=
  run_copy_none4 (P := Tryd.prog) w 23 23 ty 37 d a 0 dC sL sC Tryd.underlying23 (by rw [hi0]; simp [hz1]) (by simp)
theorem four_cells {w : World} {g o : Nat} {cur : Array Value} {t : TypeId} (h : w.heap[g]? = some (.cells cur t)) (ho : o + 4 ≤ cur.size) : ∃ x0 x1 x2 x3, w.cell? ⟨g, o, none⟩ = some x0 ∧ w.cell? ⟨g, o + 1, none⟩ = some x1 ∧ w.cell? ⟨g, o + 2, none⟩ = some x2 ∧ w.cell? ⟨g, o + 3, none⟩ = some x3 := by
  refine ⟨cur[o], cur[o + 1], cur[o + 2], cur[o + 3], ?_, ?_, ?_, ?_⟩ <;> simp [World.cell?, h]

set_option maxRecDepth 100000 in
set_option maxHeartbeats 4000000 in
theorem rZones_any (l : List Opn) (a : Option Addr) (cap : Nat) (w : World) (hlen : l.length ≤ 60) (hcap : l.length ≤ cap) (hl : OpsZ w a cap l) :
    Calls Tryd.prog 7 #[.slice a l.length cap] w fun e w' => ∃ n v L, e = .returned (.tuple #[v, .int .i64 n]) ∧ ZTold l n L ∧ ZonsH w' v L ∧ Below w.heap.size w w' := by
  have HL := hideIt hl
  have HC := hideIt (rCheck_any l a cap w hlen hcap hl.1)
  have HVA : Hid (∀ (x : Opn) (W : World), Calls Tryd.prog 20 #[.agg #[.int .i64 x.p, .int .i64 x.k, .int .i64 x.d, .int .i64 x.a, .int .i64 x.b, .int .i64 x.r, .int .i64 x.c, .int .i64 x.e]] W fun e w' => e = .returned (.int .i64 (valO x)) ∧ Below W.heap.size W w') := fun x W => value_any x W
  clear hl
  go_enter Tryd.func7, Tryd.ntmps7
  go_wp2_with fail
  refine HC.out.mono ?_
  rintro e w1 ⟨n, rfl, hct, hb1⟩
  have HCT := hideIt hct
  have HB1 := hideIt hb1
  clear hct hb1 HC
  by_cases hn : n = 0
  · subst hn
    have ok := hideIt (zOk_of HCT.out)
    have HL1 : Hid (∀ o : Obj, OpsZ (w1.alloc o) a cap l) := fun o => ⟨(HL.out.1.below HB1.out).below (belA (Below.refl _ _) o), HL.out.2⟩
    have HR0 : Hid ((w1.alloc (.cells #[.int .i64 0, .int .i64 0, .int .i64 2, .int .i64 0, .int .i64 0, .int .i64 0, .int .i64 (-2), .int .i64 (-1)] 54)).ownsRow w1.heap.size 54 8 (.slice (some ⟨w1.heap.size, 0, none⟩) [opW0].length 1) [opW0].length (flatP [opW0])) := ⟨rfl, .inr ⟨w1.heap.size, 1, _, rfl, Nat.le_refl _, heap_alloc_new w1 _, by decide, by decide, rfl, rfl⟩⟩
    go_wp2_with (at_builtin; refine wpList_append_ops rfl _ _ rfl w1.heap.size (.slice (some ⟨w1.heap.size, 0, none⟩) 1 1) [opW0] l a cap rfl HR0.out rfl (HL1.out _) (by decide) hlen (Nat.le_of_lt (size_lt_allocZ _ _)) nilNe ?_; intro v2 w2 ho2 hg2 hnn2)
    rcases ho2.2 with ⟨e, _⟩ | ⟨gA, capA, curA, rfl, hgA, hhA, hcA, _⟩
    · exact absurd e hnn2
    · have HA : Hid (OpsAt w2 gA 0 (allO l)) := opsAt_row ho2
      have hgA2 : gA < w2.heap.size := (Array.getElem?_eq_some_iff.1 hhA).1
      have HB2 : Hid (Below w1.heap.size w1 w2) := (belA (Below.refl _ _) _).grown hg2 (by simp) (fun k hk => by obtain rfl := Option.some.inj hk; exact Nat.le_refl _)
      have HLz := hideIt (HL.out.1.below HB1.out)
      have hAl : ([opW0] ++ l).length = l.length + 1 := by first | (simp; done) | (simp; omega)
      rw [hAl] at hcA ⊢
      clear ho2 hg2 hnn2 hhA HR0 HL1 hAl
      go_wp2
      go_loopw [31] (fun i wr => ∃ k : Nat, k ≤ l.length ∧ i = .int .i64 k ∧ (∀ j, j < k → (opZ l j).d = 1 → (allO l).any (explB (opZ l j)) = true) ∧ Below w2.heap.size w2 wr) (fun i _ => l.length - (intOf i).toNat)
      case atStart => exact ⟨0, Nat.zero_le _, rfl, fun j hj => absurd hj (by omega), Below.refl _ _⟩
      case round =>
        obtain ⟨k, hk, rfl, ha, hnx⟩ := hrel
        have HAA := hideIt ha
        have HNX := hideIt hnx
        have HW1 := hideIt (HB2.out.trans (hnx.mono HB2.out.size))
        clear ha
        by_cases hkl : k < l.length
        · rcases HLz.out with e | ⟨b, off, rfl, hbw, HO⟩
          · subst e; simp at hkl
          · have HOO := hideIt HO
            clear HO
            obtain ⟨c0, c1, c2, c3, c4, c5, c6, c7⟩ := (HOO.out k hkl).below hbw HW1.out
            have HX : Hid (opZ l k = l[k]) := opZ_at hkl
            generalize l[k] = x at c0 c1 c2 c3 c4 c5 c6 c7 HX
            by_cases hd : x.d = 1
            · have hd' : (x.d != 1) = false := by simp [hd]
              have HD := hideIt hd
              clear hd
              go_wp2
              go_loopw [40, 9] (fun i t wy => ∃ (i' : Nat) (ob : Bool), i' ≤ l.length + 1 ∧ i = .int .i64 i' ∧ t = .bool ob ∧ ((allO l).take i').any (explB x) = ob ∧ Below (wr.alloc (.cells #[.int .i64 x.p, .int .i64 x.k, .int .i64 x.d, .int .i64 x.a, .int .i64 x.b, .int .i64 x.r, .int .i64 x.c, .int .i64 x.e] 54)).heap.size (wr.alloc (.cells #[.int .i64 x.p, .int .i64 x.k, .int .i64 x.d, .int .i64 x.a, .int .i64 x.b, .int .i64 x.r, .int .i64 x.c, .int .i64 x.e] 54)) wy) (fun i _ _ => l.length + 1 - (intOf i).toNat)
              case atStart => exact ⟨0, false, Nat.zero_le _, rfl, rfl, rfl, Below.refl _ _⟩
              case round =>
                obtain ⟨i, ob, hi, rfl, rfl, hob, hny⟩ := hrel
                have HOB := hideIt hob
                have HNY := hideIt hny
                have HBW := hideIt ((HNX.out.alloc HNX.out.size (.cells #[.int .i64 x.p, .int .i64 x.k, .int .i64 x.d, .int .i64 x.a, .int .i64 x.b, .int .i64 x.r, .int .i64 x.c, .int .i64 x.e] 54)).trans (hny.mono (HNX.out.alloc HNX.out.size _).size))
                have hxl := Nat.lt_of_lt_of_le (size_lt_allocZ _ _) hny.size
                obtain ⟨x0, x1, x2, x3, x4, x5, x6, x7⟩ := (opAt_new _ x).below (size_lt_allocZ _ _) hny
                rw [Nat.zero_add] at x1 x2 x3 x4 x5 x6 x7
                clear hob hny
                by_cases hil : i < l.length + 1
                · obtain ⟨d0, d1, d2, d3, d4, d5, d6, d7⟩ := (HA.out i (by rw [allO_len]; exact hil)).below hgA2 HBW.out
                  rw [Nat.zero_add] at d0 d1 d2 d3 d4 d5 d6 d7
                  have hilI : (i : Int) < ((l.length + 1 : Nat) : Int) := by omega
                  obtain ⟨y, HY⟩ : ∃ y, Hid ((allO l)[i]'(by rw [allO_len]; exact hil) = y) := ⟨_, hideIt rfl⟩
                  rw [HY.out] at d0 d1 d2 d3 d4 d5 d6 d7
                  have R2 := hideIt (HNY.out.alloc HNY.out.size (.cells #[.int .i64 y.p, .int .i64 y.k, .int .i64 y.d, .int .i64 y.a, .int .i64 y.b, .int .i64 y.r, .int .i64 y.c, .int .i64 y.e] 54))
                  cases ob
                  · cases hyd : y.d == 2
                    · have R1 := hideIt (any_succ (allO l) (explB x) i (by rw [allO_len]; exact hil))
                      rw [HY.out, HOB.out, show explB x y = false from by unfold explB; rw [hyd]; rfl, Bool.or_false] at R1
                      go_wp2
                      go_roundw
                      case rel => exact ⟨i + 1, _, by omega, by go_num, rfl, R1.out, R2.out⟩
                      case measure => simp [intOf]; omega
                    · cases hya : y.a == x.r
                      · have R1 := hideIt (any_succ (allO l) (explB x) i (by rw [allO_len]; exact hil))
                        rw [HY.out, HOB.out, show explB x y = false from by unfold explB; rw [hyd, hya]; rfl, Bool.or_false] at R1
                        go_wp2
                        go_roundw
                        case rel => exact ⟨i + 1, _, by omega, by go_num, rfl, R1.out, R2.out⟩
                        case measure => simp [intOf]; omega
                      · by_cases hce : y.c ≤ x.e
                        · have hce' : decide (y.c ≤ x.e) = true := by simp [hce]
                          have R1 := hideIt (any_succ (allO l) (explB x) i (by rw [allO_len]; exact hil))
                          rw [HY.out, HOB.out, show explB x y = true from by unfold explB; rw [hyd, hya, hce']; rfl, Bool.or_true] at R1
                          go_wp2
                          go_roundw
                          case rel => exact ⟨i + 1, _, by omega, by go_num, rfl, R1.out, R2.out⟩
                          case measure => simp [intOf]; omega
                        · have hce' : decide (y.c ≤ x.e) = false := by simp [hce]
                          have R1 := hideIt (any_succ (allO l) (explB x) i (by rw [allO_len]; exact hil))
                          rw [HY.out, HOB.out, show explB x y = false from by unfold explB; rw [hyd, hya, hce']; rfl, Bool.or_false] at R1
                          go_wp2
                          go_roundw
                          case rel => exact ⟨i + 1, _, by omega, by go_num, rfl, R1.out, R2.out⟩
                          case measure => simp [intOf]; omega
                  · have R1 := hideIt (any_succ (allO l) (explB x) i (by rw [allO_len]; exact hil))
                    rw [HY.out, HOB.out, Bool.true_or] at R1
                    go_wp2
                    go_roundw
                    case rel => exact ⟨i + 1, _, by omega, by go_num, rfl, R1.out, R2.out⟩
                    case measure => simp [intOf]; omega
                · have hall : (allO l).any (explB x) = ob := by
                    have := HOB.out
                    rwa [List.take_of_length_le (by rw [allO_len]; omega)] at this
                  cases ob
                  · have R1 : Hid (ZTold l 8 []) := ⟨0, HCT.out, .inr (.inl ⟨rfl, ⟨k, hkl, by rw [HX.out]; exact HD.out, by rw [expl_none ok.out hkl, HX.out, hall]; rfl⟩, rfl, rfl⟩)⟩
                    have R2 := hideIt (belJ HB1.out (HB2.out.trans (HBW.out.mono HB2.out.size)))
                    clear hall
                    go_wp2
                    go_ret2
                    exact ⟨8, _, [], rfl, R1.out, zonsH_nil _, R2.out⟩
                  · have R1 : Hid (∀ j, j < k + 1 → (opZ l j).d = 1 → (allO l).any (explB (opZ l j)) = true) := fun j hj hdj => by
                      by_cases e : j = k
                      · subst e; rw [HX.out]; exact hall
                      · exact HAA.out j (by omega) hdj
                    clear hall
                    go_wp2
                    go_roundw
                    case rel => exact ⟨k + 1, by omega, by go_num, R1.out, HBW.out⟩
                    case measure => simp [intOf]; omega
            · have hd' : (x.d != 1) = true := by simp [hd]
              have R1 : Hid (∀ j, j < k + 1 → (opZ l j).d = 1 → (allO l).any (explB (opZ l j)) = true) := fun j hj hdj => by
                by_cases e : j = k
                · subst e; rw [HX.out] at hdj; exact absurd hdj hd
                · exact HAA.out j (by omega) hdj
              clear hd
              go_wp2
              go_roundw
              case rel => exact ⟨k + 1, by omega, by go_num, R1.out, HNX.out.alloc HNX.out.size _⟩
              case measure => simp [intOf]; omega
        · obtain ⟨wq, hwq⟩ : ∃ wq, wq = wr := ⟨wr, rfl⟩
          subst hwq
          have HNO : Hid (∀ j, j < l.length → (opZ l j).d = 1 → noneB (spW l l.length) (opZ l j) = false) := fun j hj hdj => by
            rw [expl_none ok.out hj, HAA.out j (by omega) hdj]; rfl
          have HAW : Hid (OpsAt wq gA 0 (allO l)) := HA.out.below hgA2 HNX.out
          have hgA3 : gA < wq.heap.size := Nat.lt_of_lt_of_le hgA2 hnx.size
          obtain ⟨i0, hi0, hz0, hz1, hz2⟩ := info_parts info37
          have HNC : Hid (Below w.heap.size w wq) := belJ HB1.out HW1.out
          clear HAA HLz HA hnx
          go_wp2
          go_loopw [70, 6] (fun i v wy => ∃ (j : Nat) (L : List Zon), j ≤ l.length + 1 ∧ i = .int .i64 j ∧ wy.ownsRow wq.heap.size 37 4 v L.length (zonCells L) ∧ (L = [] → v = .slice none 0 0) ∧ ZPart l j L ∧ Below wq.heap.size wq wy) (fun i _ _ => l.length + 1 - (intOf i).toNat)
          case atStart => exact ⟨0, [], Nat.zero_le _, rfl, World.ownsRow_nil _ _ _ _, fun _ => rfl, zPart_nil l, Below.refl _ _⟩
          case round =>
            obtain ⟨wv, hwv⟩ : ∃ wv, wv = wr := ⟨wr, rfl⟩
            subst hwv
            obtain ⟨j, L, hj, rfl, hro, hni, hzp, hny⟩ := hrel
            have HNI := hideIt hni
            clear hni
            have HRO := hideIt hro
            have HZP := hideIt hzp
            have HNY := hideIt hny
            have hLl := hzp.len
            clear hro hzp
            by_cases hjl : j < l.length + 1
            · obtain ⟨d0, d1, d2, d3, d4, d5, d6, d7⟩ := (HAW.out j (by rw [allO_len]; exact hjl)).below hgA3 hny
              rw [Nat.zero_add] at d0 d1 d2 d3 d4 d5 d6 d7
              have hjI : (j : Int) < ((l.length + 1 : Nat) : Int) := by omega
              have hjJ : (j : Int) < (l.length : Int) + 1 := by omega
              have HJ : Hid (opZ (allO l) j = (allO l)[j]'(by rw [allO_len]; exact hjl)) := opZ_at _
              obtain ⟨y, HY⟩ : ∃ y, Hid ((allO l)[j]'(by rw [allO_len]; exact hjl) = y) := ⟨_, hideIt rfl⟩
              rw [HY.out] at d0 d1 d2 d3 d4 d5 d6 d7 HJ
              by_cases hd : y.d = 2
              · have hd' : (y.d != 2) = false := by simp [hd]
                have HD := hideIt hd
                clear hd
                go_wp2_with fail
                go_big_quiet (fail)
                go_wp2
                generalize hWD : World.drewN (World.alloc wv (.cells #[.int .i64 y.p, .int .i64 y.k, .int .i64 y.d, .int .i64 y.a, .int .i64 y.b, .int .i64 y.r, .int .i64 y.c, .int .i64 y.e] 54)) nq = wd
                have HWD : Hid (Below (World.alloc wv (.cells #[.int .i64 y.p, .int .i64 y.k, .int .i64 y.d, .int .i64 y.a, .int .i64 y.b, .int .i64 y.r, .int .i64 y.c, .int .i64 y.e] 54)).heap.size (World.alloc wv (.cells #[.int .i64 y.p, .int .i64 y.k, .int .i64 y.d, .int .i64 y.a, .int .i64 y.b, .int .i64 y.r, .int .i64 y.c, .int .i64 y.e] 54)) wd) := by
                  show Below _ _ wd
                  rw [← hWD]; exact below_drewN (Below.refl _ _) _
                have HYB := (opAt_new _ y).below (size_lt_allocZ _ _) HWD.out
                have HYH := hideIt HYB
                have hyl := Nat.lt_of_lt_of_le (size_lt_allocZ _ _) HWD.out.size
                clear hWD HYB
                go_loopw [83, 14, 15] (fun i e b wz => ∃ (i' : Nat) (ev bv : Int), i' ≤ l.length + 1 ∧ i = .int .i64 i' ∧ e = .int .i64 ev ∧ b = .int .i64 bv ∧ ev = edE (allO l) y.a y.e i' ∧ bv = edB (allO l) y.a y.c i' ∧ Below wd.heap.size wd wz) (fun i _ _ _ => l.length + 1 - (intOf i).toNat)
                case atStart => exact ⟨0, _, _, Nat.zero_le _, rfl, rfl, rfl, rfl, rfl, Below.refl _ _⟩
                case round =>
                  obtain ⟨i, ev, bv, hi, rfl, rfl, rfl, hev, hbv, hnz⟩ := hrel
                  have HEV := hideIt hev
                  have HBV := hideIt hbv
                  have HNZ := hideIt hnz
                  clear hev hbv
                  have HBZ := hideIt ((hny.alloc hny.size (.cells #[.int .i64 y.p, .int .i64 y.k, .int .i64 y.d, .int .i64 y.a, .int .i64 y.b, .int .i64 y.r, .int .i64 y.c, .int .i64 y.e] 54)).trans ((HWD.out.trans (hnz.mono HWD.out.size)).mono (hny.alloc hny.size _).size))
                  by_cases hil : i < l.length + 1
                  · obtain ⟨u0, u1, u2, u3, u4, u5, u6, u7⟩ := (HAW.out i (by rw [allO_len]; exact hil)).below hgA3 HBZ.out
                    rw [Nat.zero_add] at u0 u1 u2 u3 u4 u5 u6 u7
                    have hilI : (i : Int) < ((l.length + 1 : Nat) : Int) := by omega
                    have hilJ : (i : Int) < (l.length : Int) + 1 := by omega
                    have HJU : Hid (opZ (allO l) i = (allO l)[i]'(by rw [allO_len]; exact hil)) := opZ_at _
                    obtain ⟨u, HU⟩ : ∃ u, Hid ((allO l)[i]'(by rw [allO_len]; exact hil) = u) := ⟨_, hideIt rfl⟩
                    rw [HU.out] at u0 u1 u2 u3 u4 u5 u6 u7 HJU
                    have HVU := hideIt (HVA.out u)
                    obtain ⟨vu, HVE⟩ : ∃ vu, Hid (valO u = vu) := ⟨_, hideIt rfl⟩
                    rw [HVE.out] at HVU
                    have HYZ := hideIt (HYH.out.below hyl HNZ.out)
                    have hyl2 := Nat.lt_of_lt_of_le hyl HNZ.out.size
                    clear hnz hny
                    go_wp2_with fail
                    generalize hWU : World.alloc wr (.cells #[.int .i64 u.p, .int .i64 u.k, .int .i64 u.d, .int .i64 u.a, .int .i64 u.b, .int .i64 u.r, .int .i64 u.c, .int .i64 u.e] 54) = wu
                    have HWU : Hid (Below wr.heap.size wr wu ∧ OpAt wu wr.heap.size 0 u ∧ wr.heap.size < wu.heap.size) := by
                      show _ ∧ _ ∧ _
                      rw [← hWU]; exact ⟨belA (Below.refl _ _) _, opAt_new _ u, size_lt_allocZ _ _⟩
                    have HOP : Hid (∀ W, Below wu.heap.size wu W → OpAt W wr.heap.size 0 u ∧ W.cell? ⟨wv.heap.size, 3, none⟩ = some (.int .i64 y.a)) := fun W hW => ⟨HWU.out.2.1.below HWU.out.2.2 hW, (hW.cell (p := ⟨wv.heap.size, 3, none⟩) (Nat.lt_trans hyl2 HWU.out.2.2)).trans ((HWU.out.1.cell (p := ⟨wv.heap.size, 3, none⟩) hyl2).trans (by have := HYZ.out.2.2.2.1; rwa [Nat.zero_add] at this))⟩
                    obtain ⟨⟨c0, c1, c2, c3, c4, c5, c6, c7⟩, y3⟩ := HOP.out wu (Below.refl _ _)
                    rw [Nat.zero_add] at c1 c2 c3 c4 c5 c6 c7
                    obtain ⟨wb, hwb⟩ : ∃ wb, (vu == y.a) = wb := ⟨_, rfl⟩
                    clear hWU
                    go_region_held3 (fun w' => w'.cell? ⟨wr.heap.size, 0, none⟩ = some (.int .i64 u.p) ∧ w'.cell? ⟨wr.heap.size, 1, none⟩ = some (.int .i64 u.k) ∧ w'.cell? ⟨wr.heap.size, 2, none⟩ = some (.int .i64 u.d) ∧ w'.cell? ⟨wr.heap.size, 3, none⟩ = some (.int .i64 u.a) ∧ w'.cell? ⟨wr.heap.size, 4, none⟩ = some (.int .i64 u.b) ∧ w'.cell? ⟨wr.heap.size, 5, none⟩ = some (.int .i64 u.r) ∧ w'.cell? ⟨wr.heap.size, 6, none⟩ = some (.int .i64 u.c) ∧ w'.cell? ⟨wr.heap.size, 7, none⟩ = some (.int .i64 u.e) ∧ w'.cell? ⟨wv.heap.size, 3, none⟩ = some (.int .i64 y.a)) (go_keep)
                      (first | (go_at_call 20; refine (HVU.out _).mono ?_; rintro e w4 ⟨rfl, hb4⟩; have HX4 := hideIt (show Below wu.heap.size wu w4 from belJ (by repeat (first | exact Below.refl _ _ | refine Below.drew ?_)) hb4); obtain ⟨⟨g0, g1, g2, g3, g4, g5, g6, g7⟩, gy⟩ := HOP.out w4 HX4.out; rw [Nat.zero_add] at g1 g2 g3 g4 g5 g6 g7; clear hb4))
                    have HWR := hideIt (HNZ.out.trans ((HWU.out.1.trans (HX4.out.mono HWU.out.1.size)).mono HNZ.out.size))
                    cases wb
                    · have R1 : Hid (ev = edE (allO l) y.a y.e (i + 1)) := by
                        show _ = if valO (opZ (allO l) i) = y.a then _ else _
                        rw [if_neg (by rw [HJU.out, HVE.out]; simpa using hwb)]; exact HEV.out
                      have R2 : Hid (bv = edB (allO l) y.a y.c (i + 1)) := by
                        show _ = if valO (opZ (allO l) i) = y.a then _ else _
                        rw [if_neg (by rw [HJU.out, HVE.out]; simpa using hwb)]; exact HBV.out
                      go_wp2
                      go_roundw
                      case rel => exact ⟨i + 1, ev, bv, by omega, by go_num, rfl, rfl, R1.out, R2.out, HWR.out⟩
                      case measure => simp [intOf]; omega
                    · have R1 : Hid (min ev u.e = edE (allO l) y.a y.e (i + 1)) := by
                        show _ = if valO (opZ (allO l) i) = y.a then _ else _
                        rw [if_pos (by rw [HJU.out, HVE.out]; simpa using hwb), ← HEV.out, HJU.out]
                      have R2 : Hid (max bv u.c = edB (allO l) y.a y.c (i + 1)) := by
                        show _ = if valO (opZ (allO l) i) = y.a then _ else _
                        rw [if_pos (by rw [HJU.out, HVE.out]; simpa using hwb), ← HBV.out, HJU.out]
                      go_wp2_with fail
                      go_region
                      go_wp2
                      go_roundw
                      case rel => exact ⟨i + 1, min ev u.e, max bv u.c, by omega, by go_num, rfl, rfl, R1.out, R2.out, HWR.out.drew⟩
                      case measure => simp [intOf]; omega
                  · obtain rfl : i = l.length + 1 := by omega
                    obtain ⟨a0, c0, rfl, hc0, hL0, hzs⟩ := zonsH_row HRO.out (by omega)
                    obtain ⟨z, HZ⟩ : ∃ z, Hid (zoneA l j = z) := ⟨_, hideIt rfl⟩
                    have hz' : z = ⟨y.a, min ev bv, max ev bv, decide (ev < bv)⟩ := by
                      rw [← HZ.out]; unfold zoneA; rw [HJ.out, ← HEV.out, ← HBV.out]; rfl
                    have hz3 : y.a = z.v := by rw [hz']
                    have hz4 : min ev bv = z.lo := by rw [hz']
                    have hz5 : max ev bv = z.hi := by rw [hz']
                    have hz6 : decide (ev < bv) = z.fw := by rw [hz']
                    obtain ⟨y0, y1, y2, y3, y4, y5, y6, y7⟩ := HYH.out.below hyl HNZ.out
                    rw [Nat.zero_add] at y1 y2 y3 y4 y5 y6 y7
                    have hyl2 := Nat.lt_of_lt_of_le hyl HNZ.out.size
                    clear hnz hz'
                    go_wp2_with fail
                    generalize hWZ : World.alloc wr (.cells #[.int .i64 z.v, .int .i64 z.lo, .int .i64 z.hi, .bool z.fw] 37) = wz
                    have HWZ : Hid (Below wr.heap.size wr wz ∧ wz.heap[wr.heap.size]? = some (.cells #[.int .i64 z.v, .int .i64 z.lo, .int .i64 z.hi, .bool z.fw] 37) ∧ wr.heap.size < wz.heap.size) := by
                      show _ ∧ _ ∧ _
                      rw [← hWZ]; exact ⟨belA (Below.refl _ _) _, heap_alloc_new _ _, size_lt_allocZ _ _⟩
                    obtain ⟨Z, HZb⟩ : ∃ Z, Z = wr.heap.size := ⟨_, rfl⟩
                    rw [← HZb] at HWZ ⊢
                    have HVZ := hideIt ((belA (Below.refl wv.heap.size wv) (.cells #[.int .i64 y.p, .int .i64 y.k, .int .i64 y.d, .int .i64 y.a, .int .i64 y.b, .int .i64 y.r, .int .i64 y.c, .int .i64 y.e] 54)).trans ((HWD.out.trans ((HNZ.out.trans ((by rw [HZb] at HWZ; exact HWZ.out.1 : Below wr.heap.size wr wz).mono HNZ.out.size)).mono HWD.out.size)).mono (by simp)))
                    have HZS : Hid (L = [] ∨ ∃ g, a0 = some ⟨g, 0, none⟩ ∧ g < wv.heap.size ∧ ZonsAt wv g 0 L) := hzs
                    have HZe := hideIt HZb
                    clear hWZ hzs HZb
                    go_loopw [19] (fun i wy => ∃ at' : Nat, at' ≤ L.length ∧ i = .int .i64 at' ∧ (∀ m, at' ≤ m → m < L.length → z.lo < (zonI L m).lo) ∧ Below wz.heap.size wz wy) (fun i _ => (intOf i).toNat)
                    case atStart => exact ⟨L.length, Nat.le_refl _, rfl, fun m h1 h2 => absurd h2 (by omega), Below.refl _ _⟩
                    case round =>
                      obtain ⟨at', hat, rfl, hup, hnu⟩ := hrel
                      have HUP := hideIt hup
                      have HNU := hideIt hnu
                      obtain ⟨e0, e1, e2, e3⟩ := (zonAt_heap HWZ.out.2.1).below HWZ.out.2.2 hnu
                      rw [Nat.zero_add] at e1 e2 e3
                      clear hup
                      obtain ⟨bb, HBB⟩ : ∃ bb, Hid ((decide (0 < at') && decide (z.lo < (zonI L (at' - 1)).lo)) = bb) := ⟨_, hideIt rfl⟩
                      go_upto_region 32 with fail
                      go_cut [127] (fun c wx => c = .bool bb ∧ Below wr.heap.size wr wx)
                      case first =>
                        cases at' with
                        | zero =>
                          go_big_quiet (fail)
                          go_wp2
                          go_meet
                          exact ⟨by rw [← HBB.out]; rfl, below_drewN (Below.refl _ _) _⟩
                        | succ t =>
                          rcases HZS.out with h0 | ⟨g, rfl, hgv, HZA⟩
                          · rw [h0] at hat; simp at hat
                          · have HZA' := hideIt HZA
                            clear HZA
                            obtain ⟨f0, f1, f2, f3⟩ := (HZA'.out t (by omega)).below hgv (HVZ.out.trans (HNU.out.mono HVZ.out.size))
                            rw [Nat.zero_add] at f0 f1 f2 f3
                            have HZT : Hid (zonI L t = L[t]) := zonI_at (by omega)
                            obtain ⟨x, HXT⟩ : ∃ x, Hid (L[t] = x) := ⟨_, hideIt rfl⟩
                            rw [HXT.out] at f0 f1 f2 f3 HZT
                            have hpos : decide ((0 : Int) < ((t + 1 : Nat) : Int)) = true := by first | (simp; done) | (simp; omega)
                            have hsub : ((t + 1 : Nat) : Int) - 1 = (t : Int) := by omega
                            have htL : (t : Int) < (L.length : Int) := by omega
                            have hwb : decide (z.lo < x.lo) = bb := by
                              rw [← HBB.out, show t + 1 - 1 = t from rfl, HZT.out]; simp
                            go_big_quiet (fail)
                            go_wp2
                            go_meet
                            exact ⟨rfl, below_drewN (Below.refl _ _) _⟩
                      case rest =>
                        obtain ⟨rfl, hbx⟩ := hcut
                        have HBX := hideIt (HNU.out.trans (hbx.mono HNU.out.size))
                        clear hbx e0 e1 e2 e3 hnu
                        cases bb
                        · have HDN : Hid (at' = 0 ∨ (zonI L (at' - 1)).lo ≤ z.lo) := by
                            have := HBB.out
                            simp at this
                            show _ ∨ _
                            omega
                          have HVC := hideIt (HVZ.out.trans (HBX.out.mono HVZ.out.size))
                          have HRW : Hid (wc.ownsRow wq.heap.size 37 4 (.slice a0 L.length c0) L.length (zonCells L)) := row_below HRO.out HVC.out
                          have HZC : Hid (wc.heap[Z]? = some (.cells #[.int .i64 z.v, .int .i64 z.lo, .int .i64 z.hi, .bool z.fw] 37)) := (HBX.out.block Z HWZ.out.2.2).trans HWZ.out.2.1
                          have hZl : Z < wc.heap.size := Nat.lt_of_lt_of_le HWZ.out.2.2 HBX.out.size
                          have hZv : wv.heap.size ≤ Z := by rw [HZe.out]; exact Nat.le_of_lt hyl2
                          have HQC := hideIt (HNY.out.trans (HVC.out.mono HNY.out.size))
                          obtain ⟨b5, h51, h52, h53, HR5⟩ : ∃ b5, wq.heap.size ≤ b5 ∧ b5 ≤ wc.heap.size + 1 ∧ (L = [] → Z < b5) ∧ Hid (wc.ownsRow b5 37 4 (.slice a0 L.length c0) L.length (zonCells L)) := by
                            by_cases hL : L = []
                            · have h9 := HNI.out hL
                              refine ⟨wc.heap.size + 1, Nat.le_trans HQC.out.size (Nat.le_succ _), Nat.le_refl _, fun _ => by omega, ?_⟩
                              show wc.ownsRow _ _ _ _ _ _
                              rw [h9, hL]; exact World.ownsRow_nil _ _ _ _
                            · exact ⟨wq.heap.size, Nat.le_refl _, Nat.le_trans HQC.out.size (Nat.le_succ _), fun h => absurd h hL, HRW⟩
                          go_wp2_with (at_builtin; refine wpList_append_own _ rfl _ _ 23 rfl b5 37 i0 _ 4 32 Tryd.underlying23 hi0 hz0 hz1 hz2 rfl (by decide) _ _ _ rfl (HR5.out.alloc _) ⟨wc.heap.size, 0, none⟩ 1 1 (Zon.list ⟨0, 0, 0, false⟩) rfl rfl ?c1 ?c2 ?c3 ?c4 ?c5 ?_)
                          case c1 =>
                            intro j u hj
                            match j, hj with
                            | 0, hj => simp [Zon.list] at hj; subst hj; first | (simp; done) | simp [Addr.add]
                            | 1, hj => simp [Zon.list] at hj; subst hj; first | (simp; done) | (simp [Addr.add]; done)
                            | 2, hj => simp [Zon.list] at hj; subst hj; first | (simp; done) | (simp [Addr.add]; done)
                            | 3, hj => simp [Zon.list] at hj; subst hj; first | (simp; done) | (simp [Addr.add]; done)
                            | n + 4, hj => simp [Zon.list] at hj
                          case c2 => intro u hu; simp [Zon.list] at hu; rcases hu with rfl | rfl | rfl | rfl <;> rfl
                          case c3 => unfold maxLen; omega
                          case c4 => omega
                          case c5 => first | (simp; done) | (simp; omega)
                          · intro v' w4 hown4 hgrow hnil4
                            have hgall := (World.grownBy_alloc wc _ _).trans hgrow
                            have hrow4 : ∀ k, Value.ownBlock _ = some k → wq.heap.size ≤ k ∧ k < wv.heap.size := fun k hk => HRO.out.lt k hk
                            obtain ⟨g4, c4, hv4, hg4, hc4⟩ : ∃ g4 c4, v' = .slice (some ⟨g4, 0, none⟩) (L.length + 1) c4 ∧ b5 ≤ g4 ∧ L.length + 1 ≤ c4 := by
                              rcases hown4.2 with ⟨_, h0⟩ | ⟨g4, c4, cur, e, hb, _, h1, _⟩
                              · omega
                              · exact ⟨g4, c4, e, hb, h1⟩
                            subst hv4
                            have HH4 : Hid (w4.heap[Z]? = some (.cells #[.int .i64 z.v, .int .i64 z.lo, .int .i64 z.hi, .bool z.fw] 37)) := (hgall.block Z hZl (fun e => by have := (hrow4 Z e.symm).2; omega)).trans HZC.out
                            have hgZ : g4 ≠ Z := fun e => by
                              subst e
                              rcases hown4.2 with ⟨_, h0⟩ | ⟨g', c', cur, e', hb, hh, h1, h2, h3, _⟩
                              · omega
                              · obtain ⟨rfl, rfl⟩ : g4 = g' ∧ c4 = c' := by simpa using e'
                                have hs : cur.size = 4 := by
                                  have h9 := hh.symm.trans HH4.out
                                  simp at h9
                                  rw [h9]; rfl
                                by_cases hL : L = []
                                · have := h53 hL; omega
                                · have : 0 < L.length := List.length_pos_iff.2 hL
                                  omega
                            have HO4 : Hid (w4.ownsRow wq.heap.size 37 4 (.slice (some ⟨g4, 0, none⟩) (L.length + 1) c4) (L.length + 1) (zonCells (L ++ [⟨0, 0, 0, false⟩]))) := by
                              show w4.ownsRow _ _ _ _ _ _
                              rw [zonCells_app]
                              obtain ⟨q1, q2 | ⟨g', c', cur, e', hb, q2⟩⟩ := hown4
                              · exact ⟨q1, .inl q2⟩
                              · exact ⟨q1, .inr ⟨g', c', cur, e', Nat.le_trans h51 hb, q2⟩⟩
                            have HB4 : Hid (Below wq.heap.size wq w4) := HQC.out.grown hgall HQC.out.size (fun k hk => (hrow4 k hk).1)
                            have hg4q : wq.heap.size ≤ g4 := Nat.le_trans h51 hg4
                            clear hown4 hgrow hgall hnil4 hrow4
                            have hatI : (at' : Int) ≤ (L.length : Int) := by omega
                            have HD4 := hideIt (row_below HO4.out (Below.refl _ _).drew)
                            have RP : Hid (ZPart l (j + 1) (L.take at' ++ z :: L.drop at')) := by
                              have h9 := HZP.out.put ok.out hjl (by rw [HJ.out]; exact HD.out) hat (by rw [HZ.out]; exact HUP.out) (by rw [HZ.out]; exact HDN.out)
                              rw [HZ.out] at h9
                              exact h9
                            have hatJ : (at' : Int) < (L.length : Int) + 1 := by omega
                            by_cases hlast : at' = L.length
                            · subst hlast
                              by_cases hc5 : c4 = L.length + 1
                              · subst hc5
                                have hce := row_copy0 hi0 hz1 w4.drew 3
                                go_wp2_with fail
                                go_region
                                generalize hW5 : w4.drew = w5
                                have HW5 : Hid (w4.drew.setCells g4 ((L.length + 1) * 4) (zonCells (L.drop L.length)) = w5) := by show _ = w5; rw [List.drop_length]; exact hW5
                                obtain ⟨cur5, hh5, hs5⟩ := row_mid HD4.out hat
                                rw [HW5.out] at hh5
                                have HZ5 : Hid (w5.heap[Z]? = some (.cells #[.int .i64 z.v, .int .i64 z.lo, .int .i64 z.hi, .bool z.fw] 37)) := by
                                  show w5.heap[Z]? = _
                                  rw [← HW5.out, setCells_other _ _ _ _ _ (Ne.symm hgZ)]; exact HH4.out
                                obtain ⟨e0, e1, e2, e3⟩ := zonAt_heap HZ5.out
                                rw [Nat.zero_add] at e1 e2 e3
                                have hf5 : ∀ i, w5.frozen? ⟨g4, i, none⟩ = false := fun i => frozen_of_row w5 _ i _ 37 hh5
                                obtain ⟨x0, x1, x2, x3, f0, f1, f2, f3⟩ := four_cells (o := L.length * 4) hh5 (by omega)
                                have R1 : Hid ((w5.setCells g4 (L.length * 4) z.list).ownsRow wq.heap.size 37 4 (.slice (some ⟨g4, 0, none⟩) (L.length + 1) (L.length + 1)) (L.take L.length ++ z :: L.drop L.length).length (zonCells (L.take L.length ++ z :: L.drop L.length))) := by
                                  show World.ownsRow _ _ _ _ _ _ _
                                  rw [show (L.take L.length ++ z :: L.drop L.length).length = L.length + 1 from by first | (simp; done) | (simp; omega), ← HW5.out]
                                  exact row_put HD4.out hat
                                have R2 : Hid (Below wq.heap.size wq (w5.setCells g4 (L.length * 4) z.list)) := by
                                  show Below _ _ _
                                  rw [← HW5.out]
                                  exact below_setCells g4 hg4q _ _ _ (below_setCells g4 hg4q _ _ _ HB4.out.drew)
                                clear hW5 hh5
                                clear hce
                                go_wp2
                                go_roundw
                                case rel => exact ⟨j + 1, L.take L.length ++ z :: L.drop L.length, by omega, by go_num, R1.out, fun h => absurd h (by simp), RP.out, R2.out⟩
                                case measure => simp [intOf]; omega
                              · have hce := row_copy0 hi0 hz1 w4.drew 3
                                go_wp2_with fail
                                go_region
                                generalize hW5 : w4.drew = w5
                                have HW5 : Hid (w4.drew.setCells g4 ((L.length + 1) * 4) (zonCells (L.drop L.length)) = w5) := by show _ = w5; rw [List.drop_length]; exact hW5
                                obtain ⟨cur5, hh5, hs5⟩ := row_mid HD4.out hat
                                rw [HW5.out] at hh5
                                have HZ5 : Hid (w5.heap[Z]? = some (.cells #[.int .i64 z.v, .int .i64 z.lo, .int .i64 z.hi, .bool z.fw] 37)) := by
                                  show w5.heap[Z]? = _
                                  rw [← HW5.out, setCells_other _ _ _ _ _ (Ne.symm hgZ)]; exact HH4.out
                                obtain ⟨e0, e1, e2, e3⟩ := zonAt_heap HZ5.out
                                rw [Nat.zero_add] at e1 e2 e3
                                have hf5 : ∀ i, w5.frozen? ⟨g4, i, none⟩ = false := fun i => frozen_of_row w5 _ i _ 37 hh5
                                obtain ⟨x0, x1, x2, x3, f0, f1, f2, f3⟩ := four_cells (o := L.length * 4) hh5 (by omega)
                                have R1 : Hid ((w5.setCells g4 (L.length * 4) z.list).ownsRow wq.heap.size 37 4 (.slice (some ⟨g4, 0, none⟩) (L.length + 1) c4) (L.take L.length ++ z :: L.drop L.length).length (zonCells (L.take L.length ++ z :: L.drop L.length))) := by
                                  show World.ownsRow _ _ _ _ _ _ _
                                  rw [show (L.take L.length ++ z :: L.drop L.length).length = L.length + 1 from by first | (simp; done) | (simp; omega), ← HW5.out]
                                  exact row_put HD4.out hat
                                have R2 : Hid (Below wq.heap.size wq (w5.setCells g4 (L.length * 4) z.list)) := by
                                  show Below _ _ _
                                  rw [← HW5.out]
                                  exact below_setCells g4 hg4q _ _ _ (below_setCells g4 hg4q _ _ _ HB4.out.drew)
                                clear hW5 hh5
                                clear hce
                                go_wp2
                                go_roundw
                                case rel => exact ⟨j + 1, L.take L.length ++ z :: L.drop L.length, by omega, by go_num, R1.out, fun h => absurd h (by simp), RP.out, R2.out⟩
                                case measure => simp [intOf]; omega
                            · have hcs := row_copy hi0 hz1 HD4.out hat 3
                              have hne1 : ¬ c4 = at' + 1 := by omega
                              have hne2 : ¬ c4 = at' := by omega
                              go_wp2_with fail
                              go_region
                              generalize hW5 : w4.drew.setCells g4 ((at' + 1) * 4) (zonCells (L.drop at')) = w5
                              have HW5 : Hid (w4.drew.setCells g4 ((at' + 1) * 4) (zonCells (L.drop at')) = w5) := hW5
                              obtain ⟨cur5, hh5, hs5⟩ := row_mid HD4.out hat
                              rw [HW5.out] at hh5
                              have HZ5 : Hid (w5.heap[Z]? = some (.cells #[.int .i64 z.v, .int .i64 z.lo, .int .i64 z.hi, .bool z.fw] 37)) := by
                                show w5.heap[Z]? = _
                                rw [← HW5.out, setCells_other _ _ _ _ _ (Ne.symm hgZ)]; exact HH4.out
                              obtain ⟨e0, e1, e2, e3⟩ := zonAt_heap HZ5.out
                              rw [Nat.zero_add] at e1 e2 e3
                              have hf5 : ∀ i, w5.frozen? ⟨g4, i, none⟩ = false := fun i => frozen_of_row w5 _ i _ 37 hh5
                              obtain ⟨x0, x1, x2, x3, f0, f1, f2, f3⟩ := four_cells (o := at' * 4) hh5 (by omega)
                              have R1 : Hid ((w5.setCells g4 (at' * 4) z.list).ownsRow wq.heap.size 37 4 (.slice (some ⟨g4, 0, none⟩) (L.length + 1) c4) (L.take at' ++ z :: L.drop at').length (zonCells (L.take at' ++ z :: L.drop at'))) := by
                                show World.ownsRow _ _ _ _ _ _ _
                                rw [show (L.take at' ++ z :: L.drop at').length = L.length + 1 from by first | (simp; done) | (simp; omega), ← HW5.out]
                                exact row_put HD4.out hat
                              have R2 : Hid (Below wq.heap.size wq (w5.setCells g4 (at' * 4) z.list)) := by
                                show Below _ _ _
                                rw [← HW5.out]
                                exact below_setCells g4 hg4q _ _ _ (below_setCells g4 hg4q _ _ _ HB4.out.drew)
                              clear hW5 hh5
                              clear hcs
                              go_wp2
                              go_roundw
                              case rel => exact ⟨j + 1, L.take at' ++ z :: L.drop at', by omega, by go_num, R1.out, fun h => absurd h (by simp), RP.out, R2.out⟩
                              case measure => simp [intOf]; omega
                        · have hb2 : 0 < at' ∧ z.lo < (zonI L (at' - 1)).lo := by simpa using HBB.out
                          obtain ⟨t, rfl⟩ : ∃ t, at' = t + 1 := ⟨at' - 1, by omega⟩
                          have R1 : Hid (∀ m, t ≤ m → m < L.length → z.lo < (zonI L m).lo) := fun m h1 h2 => by
                            by_cases e : m = t
                            · subst e; exact hb2.2
                            · exact HUP.out m (by omega) h2
                          clear hb2
                          go_wp2
                          go_roundw
                          case rel => exact ⟨t, by omega, by go_num, R1.out, HBX.out⟩
                          case measure => simp [intOf]
              · have hd' : (y.d != 2) = true := by simp [hd]
                have R1 := hideIt (HZP.out.skip (by rw [HJ.out]; exact hd))
                have R2 := hideIt (HRO.out.alloc (.cells #[.int .i64 y.p, .int .i64 y.k, .int .i64 y.d, .int .i64 y.a, .int .i64 y.b, .int .i64 y.r, .int .i64 y.c, .int .i64 y.e] 54))
                clear hd
                go_wp2
                go_roundw
                case rel => exact ⟨j + 1, L, by omega, by go_num, R2.out, HNI.out, R1.out, HNY.out.alloc HNY.out.size _⟩
                case measure => simp [intOf]; omega
            · obtain rfl : j = l.length + 1 := by omega
              have R1 : Hid (ZTold l 0 L) := ⟨0, HCT.out, .inr (.inr ⟨rfl, HNO.out, rfl, HZP.out.all ok.out⟩)⟩
              have R2 := hideIt (HNC.out.trans (HNY.out.mono HNC.out.size))
              have R3 : Hid (ZonsH _ _ L) := zonsH_row HRO.out (by omega)
              go_wp2
              go_ret2
              exact ⟨0, _, L, rfl, R1.out, R3.out, R2.out⟩
  · have hn' : (n != 0) = true := by simp [hn]
    have R1 : Hid (ZTold l n []) := ⟨n, HCT.out, .inl ⟨hn, rfl, rfl⟩⟩
    go_wp2
    go_ret2
    exact ⟨n, _, [], rfl, R1.out, zonsH_nil _, HB1.out⟩

end Go.Proofs.YtelndpbkheoeaaaDoor
