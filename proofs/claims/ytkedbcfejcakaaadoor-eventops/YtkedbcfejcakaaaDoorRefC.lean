/-
  What Ops of the document does: as the plain history.
-/
import Derived.Test.YtkedbcfejcakaaaDoorEvOps
import Derived.Test.YtkedbcfejcakaaaDoorRefA
import Derived.Test.YtkedbcfejcakaaaDoorPlainM
import Derived.Deep.DeepCutAuto
import Derived.Handy
namespace Go.Proofs.YtkedbcfejcakaaaDoor
open Go.RowKit

/-- What Ops of the document tells of events. -/
def RefTold (l : List Ev) (base : Nat) (e : Ending) (w' : World) : Prop :=
  (120 < l.length ∧ e = .returned (.tuple #[.slice none 0 0, .agg #[.int .i64 4, .int .i64 (-1)]])) ∨
  (∃ (k : Nat) (n : Int) (h : k < l.length), FineH l k ∧ seeN l[k] (hist l k) = n ∧ n ≠ 0 ∧ e = .returned (.tuple #[.slice none 0 0, .agg #[.int .i64 n, .int .i64 k]])) ∨
  (l.length ≤ 120 ∧ FineH l l.length ∧ ∃ v, e = .returned (.tuple #[v, .agg #[.int .i64 0, .int .i64 (-1)]]) ∧ w'.ownsRow base 47 8 v (opsTo l l.length).length (opCells (opsTo l l.length)))

theorem seeN_fault {e : Ev} {s : Hs} (h : e.fault ≠ 0) : seeN e s = e.fault := by unfold seeN; rw [if_pos h]
theorem seeN_begin {e : Ev} {s : Hs} (h : e.fault = 0) (ht : e.t = 1) (hb : s.busy e.p = none) (hl : s.lost e.p = false) : seeN e s = 0 := by
  unfold seeN; rw [if_neg (by simp [h]), if_pos ht, hb, hl]; rfl
theorem seeN_begin6 {e : Ev} {s : Hs} (h : e.fault = 0) (ht : e.t = 1) (hb : (s.busy e.p).isSome = true ∨ s.lost e.p = true) : seeN e s = 6 := by
  unfold seeN; rw [if_neg (by simp [h]), if_pos ht]
  rcases hb with hb | hb <;> simp [hb]
theorem seeN_end12 {e : Ev} {s : Hs} (h : e.fault = 0) (ht : e.t ≠ 1) (hb : s.busy e.p = none) : seeN e s = 12 := by
  unfold seeN; rw [if_neg (by simp [h]), if_neg ht, hb]
theorem seeN_end {e : Ev} {s : Hs} {o : Opn} (h : e.fault = 0) (ht : e.t ≠ 1) (hb : s.busy e.p = some o) : seeN e s = if sameB o e then 0 else 12 := by
  unfold seeN; rw [if_neg (by simp [h]), if_neg ht, hb]

theorem same_yes {y e : Ev} {m : Int} (k1 : (y.k != e.k) = false) (k2 : (y.d != e.d) = false) (k3 : (y.a != e.a) = false) (k4 : (y.b != e.b) = false) : (if sameB (y.op m) e then (0 : Int) else 12) = 0 := by
  have h : sameB (y.op m) e = true := by
    simp at k1 k2 k3 k4
    simp [sameB, Ev.op, k1, k2, k3, k4]
  rw [h]; rfl
theorem same_no {y e : Ev} {m : Int} (h : (y.k != e.k) = true ∨ (y.d != e.d) = true ∨ (y.a != e.a) = true ∨ (y.b != e.b) = true) : (if sameB (y.op m) e then (0 : Int) else 12) = 12 := by
  have h : sameB (y.op m) e = false := by
    cases hs : sameB (y.op m) e
    · rfl
    · simp [sameB, Ev.op] at hs
      simp [hs.1.1.1, hs.1.1.2, hs.1.2, hs.2] at h
  rw [h]; rfl

theorem EvOpsLt {w : World} {g j : Nat} {x : Value} (h : w.cell? ⟨g, j, none⟩ = some x) : g < w.heap.size := by
  rcases Nat.lt_or_ge g w.heap.size with k | k
  · exact k
  · simp [World.cell?, Array.getElem?_eq_none k] at h

/-- The second result, as it is made. -/
def Res (w : World) (q : Nat) : Prop :=
  w.cell? ⟨q, 0, none⟩ = some (.int .i64 0) ∧ w.cell? ⟨q, 1, none⟩ = some (.int .i64 0) ∧ w.frozen? ⟨q, 0, none⟩ = false ∧ w.frozen? ⟨q, 1, none⟩ = false
theorem Res.below {w w' : World} {B q : Nat} (h : Res w q) (hq : q < B) (hn : Below B w w') : Res w' q :=
  ⟨(hn.cell (p := ⟨q, 0, none⟩) hq).trans h.1, (hn.cell (p := ⟨q, 1, none⟩) hq).trans h.2.1, (hn.frozen (p := ⟨q, 0, none⟩) hq).trans h.2.2.1, (hn.frozen (p := ⟨q, 1, none⟩) hq).trans h.2.2.2⟩
theorem res_new (w : World) : Res (w.alloc (.cells #[.int .i64 0, .int .i64 0] 37)) w.heap.size := by unfold Res; simp
theorem evAt_new (w : World) (e : Ev) : EvAt (w.alloc (.cells #[.int .i64 e.p, .int .i64 e.t, .int .i64 e.k, .int .i64 e.d, .int .i64 e.a, .int .i64 e.b, .int .i64 e.r] 30)) w.heap.size 0 e := by unfold EvAt; simp
theorem below_alloc1 (w : World) (o o2 : Obj) : Below (w.heap.size + 1) (w.alloc o) ((w.alloc o).alloc o2) := (Below.refl _ _).alloc (by simp) _
theorem opAt_new' (w : World) (e : Ev) (i : Nat) : OpAt ((w.alloc (.cells #[.int .i64 e.p, .int .i64 e.t, .int .i64 e.k, .int .i64 e.d, .int .i64 e.a, .int .i64 e.b, .int .i64 e.r] 30)).alloc (.cells #[.int .i64 e.p, .int .i64 e.k, .int .i64 e.d, .int .i64 e.a, .int .i64 e.b, .int .i64 0, .int .i64 i, .int .i64 (-1)] 47)) (w.heap.size + 1) 0 (e.op i) := by
  have e1 : (w.alloc (.cells #[.int .i64 e.p, .int .i64 e.t, .int .i64 e.k, .int .i64 e.d, .int .i64 e.a, .int .i64 e.b, .int .i64 e.r] 30)).heap.size = w.heap.size + 1 := by simp
  unfold OpAt Ev.op
  rw [← e1]; simp
theorem opsTo_len (l : List Ev) (n : Nat) : (opsTo l n).length ≤ n := by
  have := List.length_filterMap_le (opAt l) (List.range n)
  rw [List.length_range] at this; exact this
theorem frz (w : World) (cs ds : Array Value) (j : Nat) : ((w.alloc (.cells cs 30)).alloc (.cells ds 47)).frozen? ⟨w.heap.size + 1, j, none⟩ = false := by
  have e1 : (w.alloc (.cells cs 30)).heap.size = w.heap.size + 1 := by simp
  rw [← e1]; simp
theorem own_setN {w : World} {base e size n q j : Nat} {v u : Value} {xs : List Value} (hq : ∀ g, v.ownBlock = some g → g ≠ q) (h : w.ownsRow base e size v n xs) : (w.setCell ⟨q, j, none⟩ u).ownsRow base e size v n xs := by
  refine ⟨h.1, h.2.imp id ?_⟩
  rintro ⟨g, cap, cur, rfl, b, c, d⟩
  exact ⟨g, cap, cur, rfl, b, (Below.heap_setCell w ⟨q, j, none⟩ u g (hq g rfl)).trans c, d⟩
theorem own_below {w w' : World} {B base e size n : Nat} {v : Value} {xs : List Value} (h : w.ownsRow base e size v n xs) (hn : Below B w w') (hB : w.heap.size ≤ B) : w'.ownsRow base e size v n xs := by
  refine ⟨h.1, h.2.imp id ?_⟩
  rintro ⟨g, cap, cur, a, b, c, d⟩
  exact ⟨g, cap, cur, a, b, (hn.block g (Nat.lt_of_lt_of_le (Array.getElem?_eq_some_iff.1 c).1 hB)).trans c, d⟩
theorem own_set {w : World} {base e size n q j : Nat} {v u : Value} {xs : List Value} (h : w.ownsRow base e size v n xs) (hq : q < base) : (w.setCell ⟨q, j, none⟩ u).ownsRow base e size v n xs := by
  refine ⟨h.1, h.2.imp id ?_⟩
  rintro ⟨g, cap, cur, a, b, c, d⟩
  exact ⟨g, cap, cur, a, b, (Below.heap_setCell w ⟨q, j, none⟩ u g (by show g ≠ q; omega)).trans c, d⟩
theorem belS {w W : World} {j : Nat} {u : Value} (h : Below w.heap.size w W) : Below w.heap.size w (W.setCell ⟨w.heap.size, j, none⟩ u) := h.setCell (Nat.le_refl _) u

theorem res_set {w : World} {q : Nat} (h : Res w q) (x y : Value) : ((w.setCell ⟨q, 0, none⟩ x).setCell ⟨q, 1, none⟩ y).cell? ⟨q, 0, none⟩ = some x ∧ ((w.setCell ⟨q, 0, none⟩ x).setCell ⟨q, 1, none⟩ y).cell? ⟨q, 1, none⟩ = some y := by
  obtain ⟨h0, h1, _, _⟩ := h
  have e1 : (⟨q, 1, none⟩ : Addr) ≠ ⟨q, 0, none⟩ := by simp
  have e2 : (⟨q, 0, none⟩ : Addr) ≠ ⟨q, 1, none⟩ := by simp
  exact ⟨(World.cell?_setCell_other _ _ _ _ e1).trans (World.cell?_setCell_same _ _ _ h0), World.cell?_setCell_same _ _ _ ((World.cell?_setCell_other _ _ _ _ e2).trans h1)⟩
theorem ret11 (tmps : Array Value) (w : World) (q : Nat) (x y : Value) (hp : tmps.getD 3 undef = .pointer (some ⟨q, 0, none⟩)) (h0 : w.cell? ⟨q, 0, none⟩ = some x) (h1 : w.cell? ⟨q, 1, none⟩ = some y) :
    (results Tryd.f11 tmps).run Tryd.prog w = .ok (.tuple #[tmps.getD 2 undef, .agg #[x, y]]) w := by
  have hp' : tmps[3]?.getD undef = .pointer (some ⟨q, 0, none⟩) := by simpa using hp
  simp [results, Tryd.results11, go_sem, hp', h0, h1]

set_option maxRecDepth 100000 in
set_option maxHeartbeats 8000000 in
theorem refOps_some (l : List Ev) (b cap : Nat) (w : World) (hlen : l.length ≤ 120) (_hcap : l.length ≤ cap) (hl : EvsAt w b 0 l) (hb : b < w.heap.size) (hf0 : w.cell? ⟨0, 0, none⟩ = some (.int .i64 0)) (hf1 : w.cell? ⟨0, 1, none⟩ = some (.int .i64 (-1))) :
    Calls Tryd.prog 11 #[.slice (some ⟨b, 0, none⟩) l.length cap] w fun e w' => RefTold l (w.heap.size + 1) e w' ∧ Below w.heap.size w w' := by
  have HL := hideIt hl
  clear hl
  have HF0 := hideIt hf0
  have HF1 := hideIt hf1
  clear hf0 hf1
  have h120 : decide (120 < (l.length : Int)) = false := by simp; omega
  go_enter Tryd.func11, Tryd.ntmps11
  go_wp2
  go_loopw [22] (fun i wr => ∃ k : Nat, k ≤ l.length ∧ i = .int .i64 k ∧ FineH l k ∧ Below w.heap.size w wr ∧ Res wr w.heap.size ∧ w.heap.size < wr.heap.size) (fun i _ => l.length - (intOf i).toNat)
  case atStart => exact ⟨0, Nat.zero_le _, rfl, fun i _ h => absurd h (Nat.not_lt_zero _), belA (Below.refl _ _) _, res_new w, by simp⟩
  case round =>
    obtain ⟨k, hk, rfl, hf, hnx, hres, hrl⟩ := hrel
    have HRS := hideIt hres
    clear hres
    have HF := hideIt hf
    have hsz := hnx.size
    clear hf
    by_cases hkl : k < l.length
    · obtain ⟨e, HE⟩ : ∃ e, Hid (l[k] = e) := ⟨_, hideIt rfl⟩
      have hc := (HL.out k hkl).below hb hnx
      rw [HE.out] at hc
      obtain ⟨c0, c1, c2, c3, c4, c5, c6⟩ := hc
      simp only [Nat.zero_add] at c0 c1 c2 c3 c4 c5 c6
      have HC := hideIt (fun W => refCheck_any e.p e.t e.k e.d e.a e.b e.r W)
      obtain ⟨n, HN⟩ : ∃ n, Hid (e.fault = n) := ⟨_, hideIt rfl⟩
      rw [show faultN e.p e.t e.k e.d e.a e.b e.r = n from HN.out] at HC
      go_wp2_with fail
      refine (HC.out _).mono ?_
      rintro ev w1 ⟨rfl, hb1⟩
      have hsz1 := hb1.size
      have hsz2 : wr.heap.size < w1.heap.size := by simp at hsz1; omega
      clear hsz1
      have R2 := hideIt (belJ (belA hnx _) hb1)
      have HEV := hideIt ((evAt_new wr e).below (B := wr.heap.size + 1) (by omega) (by simpa using hb1))
      have HRS1 := hideIt ((HRS.out.below (B := wr.heap.size) hrl (belA (Below.refl _ _) _)).below (B := wr.heap.size + 1) (by omega) (by simpa using hb1))
      clear hb1
      by_cases hz : n = 0
      · have hz' : (n != 0) = false := by simp [hz]
        have HZ : Hid (e.fault = 0) := HN.out.trans hz
        clear hz HC HN
        go_wp2
        go_loopw [7, 35] (fun la i wi => ∃ j : Nat, j ≤ k ∧ i = .int .i64 j ∧ la = .int .i64 (lastK l e.p j) ∧ Below w1.heap.size w1 wi) (fun _ i _ => k - (intOf i).toNat)
        case atStart => exact ⟨0, Nat.zero_le _, rfl, rfl, Below.refl _ _⟩
        case round =>
          obtain ⟨j, hj, rfl, rfl, hni⟩ := hrel
          by_cases hjk : j < k
          · obtain ⟨y, HY⟩ : ∃ y, Hid (l[j] = y) := ⟨_, hideIt rfl⟩
            have hcy := (HL.out j (by omega)).below hb (belJ R2.out hni)
            rw [HY.out] at hcy
            obtain ⟨d0, _, _, _, _, _, _⟩ := hcy
            obtain ⟨e0, _, _, _, _, _, _⟩ := HEV.out.below hsz2 hni
            simp only [Nat.zero_add] at d0 e0
            cases hp : y.p == e.p
            · have R3 : Hid (lastK l e.p (j + 1) = lastK l e.p j) := by
                show lastK l e.p (j + 1) = lastK l e.p j
                rw [lastK_succ l e.p j (by omega), HY.out, if_neg (by simpa using hp)]
              go_wp2
              go_region
              all_goals
                go_wp2
                go_roundw
                case rel => exact ⟨j + 1, by omega, by go_num, by rw [R3.out], by first | exact hni.drew | exact hni⟩
                case measure => simp [intOf]; omega
            · have R3 : Hid (lastK l e.p (j + 1) = j) := by
                show lastK l e.p (j + 1) = j
                rw [lastK_succ l e.p j (by omega), HY.out, if_pos (by simpa using hp)]
              go_wp2
              go_region
              all_goals
                go_wp2
                go_roundw
                case rel => exact ⟨j + 1, by omega, by go_num, by rw [R3.out], by first | exact hni.drew | exact hni⟩
                case measure => simp [intOf]; omega
          · obtain rfl : j = k := by omega
            have HLK := lastIs l j (by omega) HF.out e.p
            have R6 := hideIt (belJ R2.out hni)
            obtain ⟨e0, e1, e2, e3, e4, e5, _⟩ := HEV.out.below hsz2 hni
            simp only [Nat.zero_add] at e0 e1 e2 e3 e4 e5
            have HRS2 := hideIt (HRS1.out.below (B := w1.heap.size) (by omega) hni)
            obtain ⟨r0, r1, r2, r3⟩ := HRS2.out
            have hszi := hni.size
            have hwl : w.heap.size < wr.heap.size := by omega
            rcases HLK with ⟨hm1, hbn, hln⟩ | ⟨m, hml, hm1, hmk, hmp, hcase⟩
            · rw [hm1]
              clear hm1
              by_cases ht : e.t = 1
              · have ht' : (e.t == 1) = true := by simp [ht]
                have ht2 : (e.t != 1) = false := by simp [ht]
                have HSN : seeN e (hist l j) = 0 := seeN_begin HZ.out ht hbn hln
                have HSNK : Hid True := trivial
                clear hbn hln ht
                have R5 : Hid (FineH l (j + 1)) := fineH_succ HF.out hkl (by rw [HE.out]; exact HSN)
                clear HSN HSNK
                go_wp2
                go_quiet (fail)
                go_wp2
                go_roundw
                case rel => exact ⟨j + 1, by omega, by go_num, R5.out, below_drewN R6.out _, HRS2.out.below hwl (below_drewN (Below.refl _ _) _), Nat.lt_of_lt_of_le hwl (below_drewN (Below.refl wr.heap.size wr) _).size⟩
                case measure => simp [intOf]; omega
              · have ht' : (e.t == 1) = false := by simp [ht]
                have ht2 : (e.t != 1) = true := by simp [ht]
                have HSN : seeN e (hist l j) = 12 := seeN_end12 HZ.out ht hbn
                have HSNK : Hid True := trivial
                clear hbn hln ht
                have R5 : Hid (seeN l[j] (hist l j) = 12) := by
                  show seeN l[j] (hist l j) = 12
                  rw [HE.out]; exact HSN
                clear HSN HSNK
                go_wp2
                go_quiet (fail)
                go_wp2
                (try simp only [Exit.inBlock, Exit.then])
                refine bodyPost_ret (ret11 _ _ w.heap.size _ _ rfl (res_set (HRS2.out.below hwl (below_drewN (Below.refl _ _) _)) _ _).1 (res_set (HRS2.out.below hwl (below_drewN (Below.refl _ _) _)) _ _).2) rfl ?_
                exact ⟨.inr (.inl ⟨j, 12, hkl, HF.out, R5.out, by decide, rfl⟩), belS (belS (below_drewN R6.out _))⟩
            · rw [hm1]
              clear hm1
              obtain ⟨y, HY⟩ : ∃ y, Hid (l[m] = y) := ⟨_, hideIt rfl⟩
              have hcy := (HL.out m hml).below hb R6.out
              rw [HY.out] at hcy hcase
              obtain ⟨y0, y1, y2, y3, y4, y5, _⟩ := hcy
              simp only [Nat.zero_add] at y0 y1 y2 y3 y4 y5
              have i1 : (0 : Int) ≤ (m : Int) := by omega
              have i2 : (m : Int) < (l.length : Int) := by omega
              have i3 : decide ((0 : Int) ≤ (m : Int)) = true := by simp
              have i4 : decide ((m : Int) < 0) = false := by simp
              have i5 : decide ((l.length : Int) ≤ (m : Int)) = false := by simp; omega
              rcases hcase with ⟨hy, hbn, hln⟩ | ⟨hy, hbn, hln⟩ | ⟨hy, hy4, hbn, hln⟩
              · have hy1 : (y.t == 1) = true := by simp [hy]
                by_cases ht : e.t = 1
                · have ht' : (e.t == 1) = true := by simp [ht]
                  have ht2 : (e.t != 1) = false := by simp [ht]
                  have HSN : seeN e (hist l j) = 6 := seeN_begin6 HZ.out ht (.inl (by rw [hbn]; rfl))
                  have HSNK : Hid True := trivial
                  clear hbn hln ht hy
                  have R5 : Hid (seeN l[j] (hist l j) = 6) := by
                    show seeN l[j] (hist l j) = 6
                    rw [HE.out]; exact HSN
                  clear HSN HSNK
                  go_wp2
                  (try simp only [Exit.inBlock, Exit.then])
                  refine bodyPost_ret (ret11 _ _ w.heap.size _ _ rfl (res_set HRS2.out _ _).1 (res_set HRS2.out _ _).2) rfl ?_
                  exact ⟨.inr (.inl ⟨j, 6, hkl, HF.out, R5.out, by decide, rfl⟩), belS (belS R6.out)⟩
                · have ht' : (e.t == 1) = false := by simp [ht]
                  have ht2 : (e.t != 1) = true := by simp [ht]
                  have HSB := seeN_end HZ.out ht hbn
                  clear hbn hln ht hy
                  cases k1 : y.k != e.k
                  · cases k2 : y.d != e.d
                    · cases k3 : y.a != e.a
                      · cases k4 : y.b != e.b
                        · have HSN : seeN e (hist l j) = 0 := HSB.trans (same_yes k1 k2 k3 k4)
                          have HSNK : Hid True := trivial
                          clear HSB
                          have R5 : Hid (FineH l (j + 1)) := fineH_succ HF.out hkl (by rw [HE.out]; exact HSN)
                          clear HSN HSNK
                          go_wp2
                          go_quiet (fail)
                          go_wp2
                          go_roundw
                          case rel => exact ⟨j + 1, by omega, by go_num, R5.out, below_drewN R6.out _, HRS2.out.below hwl (below_drewN (Below.refl _ _) _), Nat.lt_of_lt_of_le hwl (below_drewN (Below.refl wr.heap.size wr) _).size⟩
                          case measure => simp [intOf]; omega
                        · have HSN : seeN e (hist l j) = 12 := HSB.trans (same_no (.inr (.inr (.inr k4))))
                          have HSNK : Hid True := trivial
                          clear HSB
                          have R5 : Hid (seeN l[j] (hist l j) = 12) := by
                            show seeN l[j] (hist l j) = 12
                            rw [HE.out]; exact HSN
                          clear HSN HSNK
                          go_wp2
                          go_quiet (fail)
                          go_wp2
                          (try simp only [Exit.inBlock, Exit.then])
                          refine bodyPost_ret (ret11 _ _ w.heap.size _ _ rfl (res_set (HRS2.out.below hwl (below_drewN (Below.refl _ _) _)) _ _).1 (res_set (HRS2.out.below hwl (below_drewN (Below.refl _ _) _)) _ _).2) rfl ?_
                          exact ⟨.inr (.inl ⟨j, 12, hkl, HF.out, R5.out, by decide, rfl⟩), belS (belS (below_drewN R6.out _))⟩
                      · have HSN : seeN e (hist l j) = 12 := HSB.trans (same_no (.inr (.inr (.inl k3))))
                        have HSNK : Hid True := trivial
                        clear HSB
                        have R5 : Hid (seeN l[j] (hist l j) = 12) := by
                          show seeN l[j] (hist l j) = 12
                          rw [HE.out]; exact HSN
                        clear HSN HSNK
                        go_wp2
                        go_quiet (fail)
                        go_wp2
                        (try simp only [Exit.inBlock, Exit.then])
                        refine bodyPost_ret (ret11 _ _ w.heap.size _ _ rfl (res_set (HRS2.out.below hwl (below_drewN (Below.refl _ _) _)) _ _).1 (res_set (HRS2.out.below hwl (below_drewN (Below.refl _ _) _)) _ _).2) rfl ?_
                        exact ⟨.inr (.inl ⟨j, 12, hkl, HF.out, R5.out, by decide, rfl⟩), belS (belS (below_drewN R6.out _))⟩
                    · have HSN : seeN e (hist l j) = 12 := HSB.trans (same_no (.inr (.inl k2)))
                      have HSNK : Hid True := trivial
                      clear HSB
                      have R5 : Hid (seeN l[j] (hist l j) = 12) := by
                        show seeN l[j] (hist l j) = 12
                        rw [HE.out]; exact HSN
                      clear HSN HSNK
                      go_wp2
                      go_quiet (fail)
                      go_wp2
                      (try simp only [Exit.inBlock, Exit.then])
                      refine bodyPost_ret (ret11 _ _ w.heap.size _ _ rfl (res_set (HRS2.out.below hwl (below_drewN (Below.refl _ _) _)) _ _).1 (res_set (HRS2.out.below hwl (below_drewN (Below.refl _ _) _)) _ _).2) rfl ?_
                      exact ⟨.inr (.inl ⟨j, 12, hkl, HF.out, R5.out, by decide, rfl⟩), belS (belS (below_drewN R6.out _))⟩
                  · have HSN : seeN e (hist l j) = 12 := HSB.trans (same_no (.inl k1))
                    have HSNK : Hid True := trivial
                    clear HSB
                    have R5 : Hid (seeN l[j] (hist l j) = 12) := by
                      show seeN l[j] (hist l j) = 12
                      rw [HE.out]; exact HSN
                    clear HSN HSNK
                    go_wp2
                    go_quiet (fail)
                    go_wp2
                    (try simp only [Exit.inBlock, Exit.then])
                    refine bodyPost_ret (ret11 _ _ w.heap.size _ _ rfl (res_set (HRS2.out.below hwl (below_drewN (Below.refl _ _) _)) _ _).1 (res_set (HRS2.out.below hwl (below_drewN (Below.refl _ _) _)) _ _).2) rfl ?_
                    exact ⟨.inr (.inl ⟨j, 12, hkl, HF.out, R5.out, by decide, rfl⟩), belS (belS (below_drewN R6.out _))⟩
              · have hy1 : (y.t == 1) = false := by simp [hy]
                have hy2 : (y.t == 4) = true := by simp [hy]
                by_cases ht : e.t = 1
                · have ht' : (e.t == 1) = true := by simp [ht]
                  have ht2 : (e.t != 1) = false := by simp [ht]
                  have HSN : seeN e (hist l j) = 6 := seeN_begin6 HZ.out ht (.inr hln)
                  have HSNK : Hid True := trivial
                  clear hbn hln ht hy
                  have R5 : Hid (seeN l[j] (hist l j) = 6) := by
                    show seeN l[j] (hist l j) = 6
                    rw [HE.out]; exact HSN
                  clear HSN HSNK
                  go_wp2
                  (try simp only [Exit.inBlock, Exit.then])
                  refine bodyPost_ret (ret11 _ _ w.heap.size _ _ rfl (res_set HRS2.out _ _).1 (res_set HRS2.out _ _).2) rfl ?_
                  exact ⟨.inr (.inl ⟨j, 6, hkl, HF.out, R5.out, by decide, rfl⟩), belS (belS R6.out)⟩
                · have ht' : (e.t == 1) = false := by simp [ht]
                  have ht2 : (e.t != 1) = true := by simp [ht]
                  have HSN : seeN e (hist l j) = 12 := seeN_end12 HZ.out ht hbn
                  have HSNK : Hid True := trivial
                  clear hbn hln ht hy
                  have R5 : Hid (seeN l[j] (hist l j) = 12) := by
                    show seeN l[j] (hist l j) = 12
                    rw [HE.out]; exact HSN
                  clear HSN HSNK
                  go_wp2
                  go_quiet (fail)
                  go_wp2
                  (try simp only [Exit.inBlock, Exit.then])
                  refine bodyPost_ret (ret11 _ _ w.heap.size _ _ rfl (res_set (HRS2.out.below hwl (below_drewN (Below.refl _ _) _)) _ _).1 (res_set (HRS2.out.below hwl (below_drewN (Below.refl _ _) _)) _ _).2) rfl ?_
                  exact ⟨.inr (.inl ⟨j, 12, hkl, HF.out, R5.out, by decide, rfl⟩), belS (belS (below_drewN R6.out _))⟩
              · have hy1 : (y.t == 1) = false := by simp [hy]
                have hy2 : (y.t == 4) = false := by simp [hy4]
                by_cases ht : e.t = 1
                · have ht' : (e.t == 1) = true := by simp [ht]
                  have ht2 : (e.t != 1) = false := by simp [ht]
                  have HSN : seeN e (hist l j) = 0 := seeN_begin HZ.out ht hbn hln
                  have HSNK : Hid True := trivial
                  clear hbn hln ht hy hy4
                  have R5 : Hid (FineH l (j + 1)) := fineH_succ HF.out hkl (by rw [HE.out]; exact HSN)
                  clear HSN HSNK
                  go_wp2
                  go_quiet (fail)
                  go_wp2
                  go_roundw
                  case rel => exact ⟨j + 1, by omega, by go_num, R5.out, below_drewN R6.out _, HRS2.out.below hwl (below_drewN (Below.refl _ _) _), Nat.lt_of_lt_of_le hwl (below_drewN (Below.refl wr.heap.size wr) _).size⟩
                  case measure => simp [intOf]; omega
                · have ht' : (e.t == 1) = false := by simp [ht]
                  have ht2 : (e.t != 1) = true := by simp [ht]
                  have HSN : seeN e (hist l j) = 12 := seeN_end12 HZ.out ht hbn
                  have HSNK : Hid True := trivial
                  clear hbn hln ht hy hy4
                  have R5 : Hid (seeN l[j] (hist l j) = 12) := by
                    show seeN l[j] (hist l j) = 12
                    rw [HE.out]; exact HSN
                  clear HSN HSNK
                  go_wp2
                  go_quiet (fail)
                  go_wp2
                  (try simp only [Exit.inBlock, Exit.then])
                  refine bodyPost_ret (ret11 _ _ w.heap.size _ _ rfl (res_set (HRS2.out.below hwl (below_drewN (Below.refl _ _) _)) _ _).1 (res_set (HRS2.out.below hwl (below_drewN (Below.refl _ _) _)) _ _).2) rfl ?_
                  exact ⟨.inr (.inl ⟨j, 12, hkl, HF.out, R5.out, by decide, rfl⟩), belS (belS (below_drewN R6.out _))⟩
      · have hz' : (n != 0) = true := by simp [hz]
        have R1 : Hid (FineH l k ∧ seeN l[k] (hist l k) = n ∧ n ≠ 0) := ⟨HF.out, by rw [HE.out, seeN_fault (by rw [HN.out]; exact hz)]; exact HN.out, hz⟩
        obtain ⟨r0, r1, r2, r3⟩ := HRS1.out
        have hwl : w.heap.size < w1.heap.size := by omega
        clear hz
        go_wp2
        (try simp only [Exit.inBlock, Exit.then])
        refine bodyPost_ret (ret11 _ _ w.heap.size _ _ rfl (res_set HRS1.out _ _).1 (res_set HRS1.out _ _).2) rfl ?_
        exact ⟨.inr (.inl ⟨k, n, hkl, R1.out.1, R1.out.2.1, R1.out.2.2, rfl⟩), belS (belS R2.out)⟩
    · obtain rfl : k = l.length := by omega
      obtain ⟨W0, hW0⟩ : ∃ W0, W0 = wr := ⟨_, rfl⟩
      subst hW0
      have hp0 : 0 < w.heap.size := (EvOpsLt HF0.out)
      obtain ⟨i0, hi, hz0, hz1, hz2⟩ := info_parts info31
      go_wp2
      go_loopw [10, 130] (fun out i wo => ∃ k : Nat, k ≤ l.length ∧ i = .int .i64 k ∧ wo.ownsRow (w.heap.size + 1) 47 8 out (opsTo l k).length (opCells (opsTo l k)) ∧ Below (w.heap.size + 1) W0 wo) (fun _ i _ => l.length - (intOf i).toNat)
      case atStart => exact ⟨0, Nat.zero_le _, rfl, World.ownsRow_nil _ _ _ _, Below.refl _ _⟩
      case round =>
        obtain ⟨i, hi', rfl, hown, hnw⟩ := hrel
        have hszw := hnw.size
        have HB := hideIt (hnx.trans (hnw.mono (B' := w.heap.size) (by omega)))
        have HO := hideIt hown
        have HNW := hideIt hnw
        clear hown hnw
        obtain ⟨W1, hW1⟩ : ∃ W1, W1 = wr := ⟨_, rfl⟩
        subst hW1
        by_cases hil : i < l.length
        · obtain ⟨e, HE⟩ : ∃ e, Hid (l[i] = e) := ⟨_, hideIt rfl⟩
          have hc := (HL.out i hil).below hb HB.out
          rw [HE.out] at hc
          obtain ⟨c0, c1, c2, c3, c4, c5, c6⟩ := hc
          simp only [Nat.zero_add] at c0 c1 c2 c3 c4 c5 c6
          by_cases ht : e.t = 1
          · have ht' : (e.t != 1) = false := by simp [ht]
            have HT := hideIt ht
            clear ht
            go_wp2
            go_loopw [14, 15] (fun f kk wi => ∃ j : Nat, i + 1 ≤ j ∧ j ≤ l.length ∧ f = .bool false ∧ kk = .int .i64 j ∧ nxtTo l i j = none ∧ Below (W1.heap.size + 2) ((W1.alloc (.cells #[.int .i64 e.p, .int .i64 e.t, .int .i64 e.k, .int .i64 e.d, .int .i64 e.a, .int .i64 e.b, .int .i64 e.r] 30)).alloc (.cells #[.int .i64 e.p, .int .i64 e.k, .int .i64 e.d, .int .i64 e.a, .int .i64 e.b, .int .i64 0, .int .i64 i, .int .i64 (-1)] 47)) wi) (fun _ kk _ => l.length - (intOf kk).toNat)
            case atStart => exact ⟨i + 1, Nat.le_refl _, by omega, rfl, by go_num, nxtTo_early l i (i + 1) (Nat.le_refl _), Below.refl _ _⟩
            case round =>
              obtain ⟨j, hj1, hj2, rfl, rfl, hn, hni⟩ := hrel
              have HNI := hideIt hni
              have hszi := hni.size
              simp at hszi
              have HBI : Hid (Below w.heap.size w wr) := (belA (belA HB.out _) _).trans (hni.mono (by omega))
              have HNX := hideIt hn
              obtain ⟨e0, _, _, _, _, _, _⟩ := (EvAt.below (evAt_new W1 e) (B := W1.heap.size + 1) (by omega) ((below_alloc1 W1 _ _))).below (B := W1.heap.size + 2) (by omega) hni
              obtain ⟨o0, o1, o2, o3, o4, o5, o6, o7⟩ := (opAt_new' W1 e i).below (B := W1.heap.size + 2) (by omega) hni
              simp only [Nat.zero_add] at e0 o0 o1 o2 o3 o4 o5 o6 o7
              clear hni hn
              by_cases hjl : j < l.length
              · obtain ⟨y, HY⟩ : ∃ y, Hid (l[j] = y) := ⟨_, hideIt rfl⟩
                have hcy := (HL.out j hjl).below hb HBI.out
                rw [HY.out] at hcy
                obtain ⟨d0, d1, d2, d3, d4, d5, d6⟩ := hcy
                simp only [Nat.zero_add] at d0 d1 d2 d3 d4 d5 d6
                cases hp : y.p == e.p
                · have R3 : Hid (nxtTo l i (j + 1) = none) := by
                    show nxtTo l i (j + 1) = none
                    rw [nxtTo_succ_none l i j (by omega) hjl HNX.out, HY.out, HE.out, if_neg (by simpa using hp)]
                  go_wp2
                  go_region
                  all_goals
                    go_wp2
                    go_roundw
                    case rel => exact ⟨j + 1, by omega, by omega, rfl, by go_num, R3.out, by first | exact HNI.out.drew | exact HNI.out⟩
                    case measure => simp [intOf]; omega
                · have R3 : Hid (nxtTo l i l.length = some j) := by
                    refine nxtTo_mono l i (j + 1) _ j ?_ (by omega)
                    rw [nxtTo_succ_none l i j (by omega) hjl HNX.out, HY.out, HE.out, if_pos (by simpa using hp)]
                  by_cases h3 : y.t = 3
                  · have h3' : (y.t == 3) = true := by simp [h3]
                    have h2' : (y.t == 2) = false := by simp [h3]
                    have R4 : Hid (opsTo l (i + 1) = opsTo l i) := by
                      show opsTo l (i + 1) = opsTo l i
                      rw [opsTo_succ]
                      have : opAt l i = none := by unfold opAt; rw [List.getElem?_eq_getElem hil, HE.out]; simp [HT.out, R3.out, List.getElem?_eq_getElem hjl, HY.out, h3]
                      rw [this]; simp
                    have R5 := hideIt (own_below ((HO.out.alloc _).alloc _) HNI.out (by simp))
                    have R6 := hideIt (((HNW.out.alloc (by omega) _).alloc (by simp; omega) _).trans (HNI.out.mono (by omega)))
                    clear h3
                    go_wp2
                    go_region
                    all_goals
                      go_wp2
                      go_roundw
                      case rel => exact ⟨i + 1, by omega, by go_num, by rw [R4.out]; exact R5.out, by first | exact R6.out | exact R6.out.drew⟩
                      case measure => simp [intOf]; omega
                  · have h3' : (y.t == 3) = false := by simp [h3]
                    by_cases h2 : y.t = 2
                    · have h2' : (y.t == 2) = true := by simp [h2]
                      have R4 : Hid (opsTo l (i + 1) = opsTo l i ++ [endO (e.op i) y.r j]) := by
                        show opsTo l (i + 1) = opsTo l i ++ [endO (e.op i) y.r j]
                        rw [opsTo_succ]
                        have : opAt l i = some (endO (e.op i) y.r j) := by unfold opAt; rw [List.getElem?_eq_getElem hil, HE.out]; simp [HT.out, R3.out, List.getElem?_eq_getElem hjl, HY.out, h2]
                        rw [this]; rfl
                      have R5 := hideIt (own_below ((HO.out.alloc _).alloc _) HNI.out (by simp))
                      have R6 := hideIt (((HNW.out.alloc (by omega) _).alloc (by simp; omega) _).trans (HNI.out.mono (by omega)))
                      have R9 : Hid (∀ g, u10.ownBlock = some g → g ≠ W1.heap.size + 1) := fun g hg => by have := (HO.out.lt g hg).2; omega
                      have z5 : wr.frozen? ⟨W1.heap.size + 1, 5, none⟩ = false := (HNI.out.frozen (p := ⟨W1.heap.size + 1, 5, none⟩) (by show W1.heap.size + 1 < W1.heap.size + 2; omega)).trans (frz W1 _ _ 5)
                      have z7 : wr.frozen? ⟨W1.heap.size + 1, 7, none⟩ = false := (HNI.out.frozen (p := ⟨W1.heap.size + 1, 7, none⟩) (by show W1.heap.size + 1 < W1.heap.size + 2; omega)).trans (frz W1 _ _ 7)
                      clear h2 h3
                      go_wp2
                      go_region
                      all_goals
                        go_wp2_with fail
                        go_region
                        all_goals
                          go_wp2_with (at_builtin; refine wpList_append_own _ rfl _ _ 35 rfl (w.heap.size + 1) 47 i0 _ 8 64 Tryd.underlying35 hi hz0 hz1 hz2 rfl (by decide) _ _ _ rfl (show World.ownsRow (World.drew (World.drew (World.alloc ((wr.setCell ⟨W1.heap.size + 1, 7, none⟩ (.int .i64 j)).setCell ⟨W1.heap.size + 1, 5, none⟩ (.int .i64 y.r)) (.cells #[.int .i64 (e.op i).p, .int .i64 (e.op i).k, .int .i64 (e.op i).d, .int .i64 (e.op i).a, .int .i64 (e.op i).b, .int .i64 y.r, .int .i64 (e.op i).c, .int .i64 j] 47)))) _ _ _ _ _ _ from World.ownsRow.alloc (own_setN R9.out (own_setN R9.out R5.out)) _) ⟨wr.heap.size, 0, none⟩ 1 1 (endO (e.op i) y.r j).list rfl rfl ?c1 ?c2 ?c3 ?c4 ?c5 ?_)
                          case c1 =>
                            intro j u hj
                            match j, hj with
                            | 0, hj => simp [Opn.list, endO] at hj; subst hj; first | (simp [Addr.add]; done) | (simp [Addr.add]; rw [World.cell?_alloc_at _ _ _ _ (by simp)]; rfl)
                            | 1, hj => simp [Opn.list, endO] at hj; subst hj; first | (simp [Addr.add]; done) | (simp [Addr.add]; rw [World.cell?_alloc_at _ _ _ _ (by simp)]; rfl)
                            | 2, hj => simp [Opn.list, endO] at hj; subst hj; first | (simp [Addr.add]; done) | (simp [Addr.add]; rw [World.cell?_alloc_at _ _ _ _ (by simp)]; rfl)
                            | 3, hj => simp [Opn.list, endO] at hj; subst hj; first | (simp [Addr.add]; done) | (simp [Addr.add]; rw [World.cell?_alloc_at _ _ _ _ (by simp)]; rfl)
                            | 4, hj => simp [Opn.list, endO] at hj; subst hj; first | (simp [Addr.add]; done) | (simp [Addr.add]; rw [World.cell?_alloc_at _ _ _ _ (by simp)]; rfl)
                            | 5, hj => simp [Opn.list, endO] at hj; subst hj; first | (simp [Addr.add]; done) | (simp [Addr.add]; rw [World.cell?_alloc_at _ _ _ _ (by simp)]; rfl)
                            | 6, hj => simp [Opn.list, endO] at hj; subst hj; first | (simp [Addr.add]; done) | (simp [Addr.add]; rw [World.cell?_alloc_at _ _ _ _ (by simp)]; rfl)
                            | 7, hj => simp [Opn.list, endO] at hj; subst hj; first | (simp [Addr.add]; done) | (simp [Addr.add]; rw [World.cell?_alloc_at _ _ _ _ (by simp)]; rfl)
                            | n + 8, hj => simp [Opn.list] at hj
                          case c2 => intro u hu; simp [Opn.list] at hu; rcases hu with rfl | rfl | rfl | rfl | rfl | rfl | rfl | rfl <;> rfl
                          case c3 => have := opsTo_len l i; unfold maxLen; omega
                          case c4 => have := opsTo_len l i; omega
                          case c5 => simp; omega
                          · intro v' w2 hown2 hgrow _
                            have R7 : Hid (w2.ownsRow (w.heap.size + 1) 47 8 v' (opsTo l (i + 1)).length (opCells (opsTo l (i + 1)))) := by
                              show w2.ownsRow (w.heap.size + 1) 47 8 v' (opsTo l (i + 1)).length (opCells (opsTo l (i + 1)))
                              rw [R4.out, opCells_snoc, List.length_append]; exact hown2
                            have R8 : Hid (Below (w.heap.size + 1) W0 w2) := (Below.alloc (Below.setCell (p := ⟨W1.heap.size + 1, 5, none⟩) (Below.setCell (p := ⟨W1.heap.size + 1, 7, none⟩) R6.out (by show w.heap.size + 1 ≤ W1.heap.size + 1; omega) _) (by show w.heap.size + 1 ≤ W1.heap.size + 1; omega) _) (by first | omega | (simp; omega)) _).drew.drew.grown hgrow (by simp; omega) (fun g hg => (R5.out.lt g hg).1)
                            clear hown2 hgrow
                            go_wp2
                            go_roundw
                            case rel => exact ⟨i + 1, by omega, by go_num, R7.out, R8.out⟩
                            case measure => simp [intOf]; omega
                    · have h2' : (y.t == 2) = false := by simp [h2]
                      have R4 : Hid (opsTo l (i + 1) = opsTo l i ++ [e.op i]) := by
                        show opsTo l (i + 1) = opsTo l i ++ [e.op i]
                        rw [opsTo_succ]
                        have : opAt l i = some (e.op i) := by unfold opAt; rw [List.getElem?_eq_getElem hil, HE.out]; simp [HT.out, R3.out, List.getElem?_eq_getElem hjl, HY.out, h2, h3]
                        rw [this]; rfl
                      have R5 := hideIt (own_below ((HO.out.alloc _).alloc _) HNI.out (by simp))
                      have R6 := hideIt (((HNW.out.alloc (by omega) _).alloc (by simp; omega) _).trans (HNI.out.mono (by omega)))
                      clear h2 h3
                      go_wp2
                      go_region
                      all_goals
                        go_wp2_with (at_builtin; refine wpList_append_own _ rfl _ _ 35 rfl (w.heap.size + 1) 47 i0 _ 8 64 Tryd.underlying35 hi hz0 hz1 hz2 rfl (by decide) _ _ _ rfl (World.ownsRow.alloc ((show wr.drew.ownsRow _ _ _ _ _ _ from R5.out)) _) ⟨wr.heap.size, 0, none⟩ 1 1 (e.op i).list rfl rfl ?c1 ?c2 ?c3 ?c4 ?c5 ?_)
                        case c1 =>
                          intro j u hj
                          match j, hj with
                          | 0, hj => simp [Opn.list] at hj; subst hj; first | (simp [Addr.add]; done) | (simp [Addr.add]; rw [World.cell?_alloc_at _ _ _ _ (by simp)]; rfl)
                          | 1, hj => simp [Opn.list] at hj; subst hj; first | (simp [Addr.add]; done) | (simp [Addr.add]; rw [World.cell?_alloc_at _ _ _ _ (by simp)]; rfl)
                          | 2, hj => simp [Opn.list] at hj; subst hj; first | (simp [Addr.add]; done) | (simp [Addr.add]; rw [World.cell?_alloc_at _ _ _ _ (by simp)]; rfl)
                          | 3, hj => simp [Opn.list] at hj; subst hj; first | (simp [Addr.add]; done) | (simp [Addr.add]; rw [World.cell?_alloc_at _ _ _ _ (by simp)]; rfl)
                          | 4, hj => simp [Opn.list] at hj; subst hj; first | (simp [Addr.add]; done) | (simp [Addr.add]; rw [World.cell?_alloc_at _ _ _ _ (by simp)]; rfl)
                          | 5, hj => simp [Opn.list] at hj; subst hj; first | (simp [Addr.add]; done) | (simp [Addr.add]; rw [World.cell?_alloc_at _ _ _ _ (by simp)]; rfl)
                          | 6, hj => simp [Opn.list] at hj; subst hj; first | (simp [Addr.add]; done) | (simp [Addr.add]; rw [World.cell?_alloc_at _ _ _ _ (by simp)]; rfl)
                          | 7, hj => simp [Opn.list] at hj; subst hj; first | (simp [Addr.add]; done) | (simp [Addr.add]; rw [World.cell?_alloc_at _ _ _ _ (by simp)]; rfl)
                          | n + 8, hj => simp [Opn.list] at hj
                        case c2 => intro u hu; simp [Opn.list] at hu; rcases hu with rfl | rfl | rfl | rfl | rfl | rfl | rfl | rfl <;> rfl
                        case c3 => have := opsTo_len l i; unfold maxLen; omega
                        case c4 => have := opsTo_len l i; omega
                        case c5 => simp; omega
                        · intro v' w2 hown2 hgrow _
                          have R7 : Hid (w2.ownsRow (w.heap.size + 1) 47 8 v' (opsTo l (i + 1)).length (opCells (opsTo l (i + 1)))) := by
                            show w2.ownsRow (w.heap.size + 1) 47 8 v' (opsTo l (i + 1)).length (opCells (opsTo l (i + 1)))
                            rw [R4.out, opCells_snoc, List.length_append]; exact hown2
                          have R8 : Hid (Below (w.heap.size + 1) W0 w2) := (Below.alloc (R6.out.drew) (by first | omega | (simp; omega)) _).grown hgrow (by simp; omega) (fun g hg => (R5.out.lt g hg).1)
                          clear hown2 hgrow
                          go_wp2
                          go_roundw
                          case rel => exact ⟨i + 1, by omega, by go_num, R7.out, R8.out⟩
                          case measure => simp [intOf]; omega
              · have HXE : Hid (nxtTo l i l.length = none) := by
                  have e : j = l.length := by omega
                  rw [← e]; exact HNX.out
                have R4 : Hid (opsTo l (i + 1) = opsTo l i ++ [e.op i]) := by
                  show opsTo l (i + 1) = opsTo l i ++ [e.op i]
                  rw [opsTo_succ]
                  have : opAt l i = some (e.op i) := by unfold opAt; rw [List.getElem?_eq_getElem hil, HE.out]; simp [HT.out, HXE.out]
                  rw [this]; rfl
                have R5 := hideIt (own_below ((HO.out.alloc _).alloc _) HNI.out (by simp))
                have R6 := hideIt (((HNW.out.alloc (by omega) _).alloc (by simp; omega) _).trans (HNI.out.mono (by omega)))
                go_wp2_with (at_builtin; refine wpList_append_own _ rfl _ _ 35 rfl (w.heap.size + 1) 47 i0 _ 8 64 Tryd.underlying35 hi hz0 hz1 hz2 rfl (by decide) _ _ _ rfl (World.ownsRow.alloc (R5.out) _) ⟨wr.heap.size, 0, none⟩ 1 1 (e.op i).list rfl rfl ?c1 ?c2 ?c3 ?c4 ?c5 ?_)
                case c1 =>
                  intro j u hj
                  match j, hj with
                  | 0, hj => simp [Opn.list] at hj; subst hj; first | (simp [Addr.add]; done) | (simp [Addr.add]; rw [World.cell?_alloc_at _ _ _ _ (by simp)]; rfl)
                  | 1, hj => simp [Opn.list] at hj; subst hj; first | (simp [Addr.add]; done) | (simp [Addr.add]; rw [World.cell?_alloc_at _ _ _ _ (by simp)]; rfl)
                  | 2, hj => simp [Opn.list] at hj; subst hj; first | (simp [Addr.add]; done) | (simp [Addr.add]; rw [World.cell?_alloc_at _ _ _ _ (by simp)]; rfl)
                  | 3, hj => simp [Opn.list] at hj; subst hj; first | (simp [Addr.add]; done) | (simp [Addr.add]; rw [World.cell?_alloc_at _ _ _ _ (by simp)]; rfl)
                  | 4, hj => simp [Opn.list] at hj; subst hj; first | (simp [Addr.add]; done) | (simp [Addr.add]; rw [World.cell?_alloc_at _ _ _ _ (by simp)]; rfl)
                  | 5, hj => simp [Opn.list] at hj; subst hj; first | (simp [Addr.add]; done) | (simp [Addr.add]; rw [World.cell?_alloc_at _ _ _ _ (by simp)]; rfl)
                  | 6, hj => simp [Opn.list] at hj; subst hj; first | (simp [Addr.add]; done) | (simp [Addr.add]; rw [World.cell?_alloc_at _ _ _ _ (by simp)]; rfl)
                  | 7, hj => simp [Opn.list] at hj; subst hj; first | (simp [Addr.add]; done) | (simp [Addr.add]; rw [World.cell?_alloc_at _ _ _ _ (by simp)]; rfl)
                  | n + 8, hj => simp [Opn.list] at hj
                case c2 => intro u hu; simp [Opn.list] at hu; rcases hu with rfl | rfl | rfl | rfl | rfl | rfl | rfl | rfl <;> rfl
                case c3 => have := opsTo_len l i; unfold maxLen; omega
                case c4 => have := opsTo_len l i; omega
                case c5 => simp; omega
                · intro v' w2 hown2 hgrow _
                  have R7 : Hid (w2.ownsRow (w.heap.size + 1) 47 8 v' (opsTo l (i + 1)).length (opCells (opsTo l (i + 1)))) := by
                    show w2.ownsRow (w.heap.size + 1) 47 8 v' (opsTo l (i + 1)).length (opCells (opsTo l (i + 1)))
                    rw [R4.out, opCells_snoc, List.length_append]; exact hown2
                  have R8 : Hid (Below (w.heap.size + 1) W0 w2) := (Below.alloc (R6.out) (by first | omega | (simp; omega)) _).grown hgrow (by simp; omega) (fun g hg => (R5.out.lt g hg).1)
                  clear hown2 hgrow
                  go_wp2
                  go_roundw
                  case rel => exact ⟨i + 1, by omega, by go_num, R7.out, R8.out⟩
                  case measure => simp [intOf]; omega
          · have ht' : (e.t != 1) = true := by simp [ht]
            have R1 : Hid (opsTo l (i + 1) = opsTo l i) := by
              show opsTo l (i + 1) = opsTo l i
              rw [opsTo_succ]
              have : opAt l i = none := by unfold opAt; rw [List.getElem?_eq_getElem hil, HE.out]; simp [ht]
              rw [this]; simp
            clear ht
            go_wp2
            go_roundw
            case rel => exact ⟨i + 1, by omega, by go_num, by rw [R1.out]; exact HO.out.alloc _, HNW.out.alloc (by omega) _⟩
            case measure => simp [intOf]; omega
        · obtain rfl : i = l.length := by omega
          have f0 : W1.cell? ⟨0, 0, none⟩ = some (.int .i64 0) := (HB.out.cell (p := ⟨0, 0, none⟩) hp0).trans HF0.out
          have f1 : W1.cell? ⟨0, 1, none⟩ = some (.int .i64 (-1)) := (HB.out.cell (p := ⟨0, 1, none⟩) hp0).trans HF1.out
          have HRS2 := hideIt (HRS.out.below (B := w.heap.size + 1) (by omega) HNW.out)
          obtain ⟨r0, r1, r2, r3⟩ := HRS2.out
          have hwl : w.heap.size < W1.heap.size := by omega
          go_wp2
          go_region
          all_goals
            go_wp2
            (try simp only [Exit.inBlock, Exit.then])
            refine bodyPost_ret (ret11 _ _ w.heap.size _ _ rfl (res_set (w := W1.drew) HRS2.out _ _).1 (res_set (w := W1.drew) HRS2.out _ _).2) rfl ?_
            exact ⟨.inr (.inr ⟨hlen, HF.out, _, rfl, own_set (own_set (w := W1.drew) HO.out (by omega)) (by omega)⟩), belS (belS HB.out.drew)⟩

end Go.Proofs.YtkedbcfejcakaaaDoor
