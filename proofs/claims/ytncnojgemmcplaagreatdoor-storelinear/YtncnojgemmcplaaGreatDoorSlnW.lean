/-
  The statement StoreLinear, walked.
-/
import Derived.Test.YtncnojgemmcplaaGreatDoorSmSZ
import Derived.Test.YtncnojgemmcplaaGreatDoorSortWalkZ
import Derived.Test.YtncnojgemmcplaaGreatDoorSwSZ
namespace Go.Proofs.YtncnojgemmcplaaGreatDoor
open Go.RowKit

theorem evs_in {W : World} {base : Nat} {v : Value} {l : List St.Evp} (h : W.ownsRow base 101 7 v l.length (St.evCs l)) : ∃ a cap, v = .slice a (l.map toEv).length cap ∧ ((l.map toEv) = [] ∨ ∃ b, a = some ⟨b, 0, none⟩ ∧ b < W.heap.size ∧ EvsAt W b 0 (l.map toEv)) := by
  obtain ⟨a, cap, rfl⟩ := St.ownsRow_slice h
  refine ⟨a, cap, by rw [List.length_map], ?_⟩
  rcases St.own_cells h with ⟨_, e⟩ | ⟨g, cap', e, _, hg, hc⟩
  · exact .inl (by rw [List.length_eq_zero_iff.1 e]; rfl)
  · cases e
    refine .inr ⟨g, rfl, hg, fun i hi => ?_⟩
    have hi' : i < l.length := by simpa using hi
    have hk : ∀ j, j < 7 → W.cell? ⟨g, 0 + i * 7 + j, none⟩ = (St.evC (St.evI l i))[j]? := fun j hj => by
      rw [Nat.zero_add, hc _ (by omega), St.evCs_at hi' hj]
    have e : (l.map toEv)[i] = toEv (St.evI l i) := by
      rw [List.getElem_map]
      unfold St.evI
      rw [List.getElem?_eq_getElem hi']
      rfl
    rw [e]
    exact ⟨hk 0 (by decide), hk 1 (by decide), hk 2 (by decide), hk 3 (by decide), hk 4 (by decide), hk 5 (by decide), hk 6 (by decide)⟩
/-- What Ops tells of events that are fine. -/
theorem ops_fine {l : List Ev} (hf : FineH l l.length) (h120 : l.length ≤ 120) {e : Ending} {w w' : World} (h : OpsTold l e w' ∧ Below w.heap.size w w') : ∃ a cap L, e = .returned (.tuple #[.slice a L.length cap, .nilIface]) ∧ OpsOf (hist l l.length) L ∧ OpsIn w' (.slice a L.length cap) L ∧ L.length ≤ 1000 ∧ Below w.heap.size w w' := by
  obtain ⟨⟨h1, _⟩ | ⟨k, g, n, hk, _, h2, h3, _⟩ | ⟨_, _, a, cap, L, rfl, ho, ⟨hc, hm⟩, hat⟩, hb⟩ := h
  · omega
  · exact absurd (h2.symm.trans (hf k hk hk)) h3
  · refine ⟨a, cap, L, rfl, ho, ⟨a, cap, rfl, hc, by unfold maxLen; omega, ?_⟩, hm, hb⟩
    by_cases h0 : 0 < L.length
    · obtain ⟨g, rfl, hg⟩ := hat h0
      exact .inr ⟨g, 0, rfl, (hg 0 h0).lt, hg⟩
    · exact .inl (List.length_eq_zero_iff.1 (by omega))
set_option maxRecDepth 100000 in
set_option maxHeartbeats 16000000 in
theorem linear_walk (n k ask tell : Int) (back : Bool) (l : List Mvs) (a : Option Addr) (cap : Nat) (w : World) (hm : MvsQ w a l) (hK : KnownAt w) : Calls Tryz.prog 4 #[.agg #[.int .i64 n, .int .i64 k, .int .i64 ask, .int .i64 tell, .bool back], .slice a l.length cap] w fun e w' => e = .returned (.bool true) ∧ Below w.heap.size w w' := by
  have hpos : 0 < w.heap.size := World.block_lt_of_cell? w ⟨0, 0 * 13 + 0, none⟩ (hK 0 0 (by decide) (by decide))
  by_cases h250 : 250 < l.length
  · have hd : decide ((l.length : Int) > 250) = true := decide_eq_true (by omega)
    have HB0 := hideIt (St.belA (Below.refl _ w) (.cells #[.int .i64 n, .int .i64 k, .int .i64 ask, .int .i64 tell, .bool back] 23))
    clear h250 hm hK
    go_enter Tryz.func4, Tryz.ntmps4
    go_wp2
    go_ret
    exact ⟨rfl, HB0.out⟩
  have hd : decide ((l.length : Int) > 250) = false := decide_eq_false (by omega)
  have HB0 := hideIt (St.belA (Below.refl _ w) (.cells #[.int .i64 n, .int .i64 k, .int .i64 ask, .int .i64 tell, .bool true] 23))
  have HSt := hideIt St.stores_any
  have HA : Hid (∀ Z, Below (w.alloc (.cells #[.int .i64 n, .int .i64 k, .int .i64 ask, .int .i64 tell, .bool true] 23)).heap.size (w.alloc (.cells #[.int .i64 n, .int .i64 k, .int .i64 ask, .int .i64 tell, .bool true] 23)) Z → Z.cell? ⟨w.heap.size, 0, none⟩ = some (.int .i64 n) ∧ Z.cell? ⟨w.heap.size, 1, none⟩ = some (.int .i64 k) ∧ Z.cell? ⟨w.heap.size, 2, none⟩ = some (.int .i64 ask) ∧ Z.cell? ⟨w.heap.size, 3, none⟩ = some (.int .i64 tell) ∧ Z.cell? ⟨w.heap.size, 4, none⟩ = some (.bool true)) := fun Z hZ => by
    have hblk := (hZ.block w.heap.size (by simp)).trans (heap_alloc_new w (.cells #[.int .i64 n, .int .i64 k, .int .i64 ask, .int .i64 tell, .bool true] 23))
    exact ⟨by rw [cell_of_row _ _ _ _ 23 _ hblk]; rfl, by rw [cell_of_row _ _ _ _ 23 _ hblk]; rfl, by rw [cell_of_row _ _ _ _ 23 _ hblk]; rfl, by rw [cell_of_row _ _ _ _ 23 _ hblk]; rfl, by rw [cell_of_row _ _ _ _ 23 _ hblk]; rfl⟩
  by_cases hc : ¬ St.checkC n k ask tell = 0
  · have HC : Hid (∀ Z, Calls Tryz.prog 5 #[.agg #[.int .i64 n, .int .i64 k, .int .i64 ask, .int .i64 tell, .bool true]] Z fun e w' => e = .returned (.iface 38 (.int .i64 (St.checkC n k ask tell))) ∧ Below Z.heap.size Z w') := fun Z => by
      have := St.check_any n k ask tell true Z
      unfold St.toldE at this
      rw [if_neg hc] at this
      exact this
    generalize St.checkC n k ask tell = c at *
    clear hc hm h250 hK hpos
    go_enter Tryz.func4, Tryz.ntmps4
    go_wp2_with fail
    refine (HSt.out _).mono ?_
    rintro e W2 ⟨rfl, hb2⟩
    obtain ⟨a0, a1, a2, a3, a4⟩ := HA.out W2 hb2
    have HB2 := hideIt hb2
    clear hb2
    go_wp2_with fail
    refine (HC.out _).mono ?_
    rintro e W3 ⟨rfl, hb3⟩
    have HB3 := hideIt (St.belJ HB0.out (St.belJ HB2.out hb3))
    clear hb3 a0 a1 a2 a3 a4 HB2 HC
    go_wp2_with fail
    refine (HSt.out _).mono ?_
    rintro e W4 ⟨rfl, hb4⟩
    have HB4 := hideIt (St.belJ HB3.out hb4)
    clear hb4
    go_wp2
    go_ret
    exact ⟨rfl, HB4.out⟩
  replace hc : St.checkC n k ask tell = 0 := Classical.not_not.1 hc
  obtain ⟨hn, hk, ha, ht⟩ := St.checkC_ok hc
  obtain ⟨n, rfl⟩ : ∃ x : Nat, n = x := ⟨n.toNat, by omega⟩
  obtain ⟨k, rfl⟩ : ∃ x : Nat, k = x := ⟨k.toNat, by omega⟩
  obtain ⟨ask, rfl⟩ : ∃ x : Nat, ask = x := ⟨ask.toNat, by omega⟩
  obtain ⟨tell, rfl⟩ : ∃ x : Nat, tell = x := ⟨tell.toNat, by omega⟩
  have HC : Hid (∀ Z, Calls Tryz.prog 5 #[.agg #[.int .i64 (n : Int), .int .i64 (k : Int), .int .i64 (ask : Int), .int .i64 (tell : Int), .bool true]] Z fun e w' => e = .returned .nilIface ∧ Below Z.heap.size Z w') := fun Z => by
    have := St.check_any (n : Int) (k : Int) (ask : Int) (tell : Int) true Z
    rw [hc] at this
    exact this
  have HX : Hid (∀ Z, Calls Tryz.prog 19 #[.agg #[.int .i64 (n : Int), .int .i64 (k : Int), .int .i64 (ask : Int), .int .i64 (tell : Int), .bool true]] Z fun e w' => e = .returned (.bool (decide (n < ask + tell))) ∧ Below Z.heap.size Z w') := fun Z => St.crossing_any n k ask tell true (by omega) (by omega) Z
  have HMv : Hid (∀ Z, Below w.heap.size w Z → Calls Tryz.prog 20 #[.agg #[.int .i64 (n : Int), .int .i64 (k : Int), .int .i64 (ask : Int), .int .i64 (tell : Int), .bool true], .slice a l.length cap] Z fun e w' => ∃ w0 K, e = .returned (.pointer (some ⟨K.B, 0, none⟩)) ∧ St.StoP w0 w' K (St.runP (St.pst0 n k ask tell true) l) ∧ Below Z.heap.size Z w') := fun Z hZ => St.moved_any n k ask tell true hc a cap l (by omega) Z (hm.below hZ)
  by_cases hx : ¬ n < ask + tell
  · rw [decide_eq_false hx] at HX
    clear hc hn hk ha ht hx hm h250 HMv hK hpos
    go_enter Tryz.func4, Tryz.ntmps4
    go_wp2_with fail
    refine (HSt.out _).mono ?_
    rintro e W2 ⟨rfl, hb2⟩
    obtain ⟨a0, a1, a2, a3, a4⟩ := HA.out W2 hb2
    have HB2 := hideIt hb2
    clear hb2
    go_wp2_with fail
    refine (HC.out _).mono ?_
    rintro e W3 ⟨rfl, hb3⟩
    obtain ⟨a0, a1, a2, a3, a4⟩ := HA.out W3 (St.belJ HB2.out hb3)
    have HB3 := hideIt (St.belJ HB2.out hb3)
    clear hb3 HC HB2
    go_wp2_with fail
    refine (HX.out _).mono ?_
    rintro e W4 ⟨rfl, hb4⟩
    have HB4 := hideIt (St.belJ HB0.out (St.belJ HB3.out hb4))
    clear hb4 a0 a1 a2 a3 a4 HX HB3
    go_wp2_with fail
    refine (HSt.out _).mono ?_
    rintro e W5 ⟨rfl, hb5⟩
    have HB5 := hideIt (St.belJ HB4.out hb5)
    clear hb5
    go_wp2
    go_ret
    exact ⟨rfl, HB5.out⟩
  replace hx : n < ask + tell := Classical.not_not.1 hx
  rw [decide_eq_true hx] at HX
  obtain ⟨S, hS, hAll, hbk, h120⟩ := St.run_told2 true (show 1 ≤ n by omega) (show k ≤ 8 by omega) (show 1 ≤ ask by omega) (show 1 ≤ tell by omega) (show tell ≤ n by omega) hx l
  have hLe : (St.runP (St.pst0 n k ask tell true) l).evs.length ≤ 120 := by
    rw [hS.ev.1, List.length_map]
    exact h120
  generalize St.runP (St.pst0 n k ask tell true) l = P at *
  have HF := hideIt (evs_fine hS hAll)
  have HL : Hid (∀ L, OpsOf (hist (P.evs.map toEv) (P.evs.map toEv).length) L → L.length ≤ 40 → LcTold 1 20000 L 0 ∧ (searchM (srB 1 L 20000)).code ≠ 2) := fun L h1 h2 => linear_core hS hAll hbk h120 h1 h2
  have HKz : Hid (∀ Z, Below w.heap.size w Z → KnownAt Z) := fun Z hZ => hK.below hpos hZ
  clear hS hAll hbk hc hn hk ha ht hx hm h250 S hK h120
  go_enter Tryz.func4, Tryz.ntmps4
  go_wp2_with fail
  refine (HSt.out _).mono ?_
  rintro e W2 ⟨rfl, hb2⟩
  obtain ⟨a0, a1, a2, a3, a4⟩ := HA.out W2 hb2
  have HB2 := hideIt hb2
  clear hb2 HSt
  go_wp2_with fail
  refine (HC.out _).mono ?_
  rintro e W3 ⟨rfl, hb3⟩
  obtain ⟨a0, a1, a2, a3, a4⟩ := HA.out W3 (St.belJ HB2.out hb3)
  have HB3 := hideIt (St.belJ HB2.out hb3)
  clear hb3 HC HB2
  go_wp2_with fail
  refine (HX.out _).mono ?_
  rintro e W4 ⟨rfl, hb4⟩
  obtain ⟨a0, a1, a2, a3, a4⟩ := HA.out W4 (St.belJ HB3.out hb4)
  have HB4 := hideIt (St.belJ HB3.out hb4)
  clear hb4 HX HB3
  go_wp2_with fail
  refine (HMv.out _ (St.belJ HB0.out HB4.out)).mono ?_
  rintro e W5 ⟨w0, K, rfl, hP, hb5⟩
  have HB5 := hideIt (St.belJ HB4.out hb5)
  have HE := hideIt (St.events_any hP (by omega))
  clear hb5 HMv HB4 hP a0 a1 a2 a3 a4
  go_wp2_with fail
  refine HE.out.mono ?_
  rintro e W6 ⟨ve, rfl, hoe, hb6⟩
  obtain ⟨ae, ce, rfl, hin⟩ := evs_in hoe
  have HO : Hid (Calls Tryz.prog 21 #[.slice ae (P.evs.map toEv).length ce] W6 fun e w' => ∃ a cap L, e = .returned (.tuple #[.slice a L.length cap, .nilIface]) ∧ OpsOf (hist (P.evs.map toEv) (P.evs.map toEv).length) L ∧ OpsIn w' (.slice a L.length cap) L ∧ L.length ≤ 1000 ∧ Below W6.heap.size W6 w') := by
    have hl : (P.evs.map toEv).length ≤ 120 := by rw [List.length_map]; exact hLe
    rcases hin with h0 | ⟨b, rfl, hb, hE⟩
    · rw [h0]
      have hf := HF.out
      rw [h0] at hf
      exact (evOps_none ae ce W6).mono fun e w' h => ops_fine hf (by decide) h
    · exact (evOps_some _ b 0 ce W6 hl hE hb).mono fun e w' h => ops_fine HF.out hl h
  have HB6 := hideIt (St.belJ HB0.out (St.belJ HB5.out hb6))
  clear hoe hb6 HE hin HB5 HF hLe
  generalize (P.evs.map toEv) = lv at *
  go_wp2_with fail
  refine HO.out.mono ?_
  clear HO
  rintro e W7 ⟨ao, co, L, rfl, hO, hIn, hL1000, hb7⟩
  have HIn := hideIt hIn
  have HLL : Hid (L.length ≤ 40 → LcTold 1 20000 L 0 ∧ (searchM (srB 1 L 20000)).code ≠ 2) := HL.out L hO
  have HB7 := hideIt (St.belJ HB6.out hb7)
  clear hIn hO HL hb7 HB6
  by_cases h40 : 40 < L.length
  · have hd4 : decide ((L.length : Int) > 40) = true := decide_eq_true (by omega)
    clear h40 HLL HIn
    go_wp2
    go_ret
    exact ⟨rfl, HB7.out⟩
  have hd4 : decide ((L.length : Int) > 40) = false := decide_eq_false (by omega)
  obtain ⟨hlc, hcode⟩ := HLL.out (by omega)
  have HC2 := hideIt (check_any 1 20000 L (.slice ao L.length co) W7 (by omega) HIn.out (HKz.out _ HB7.out))
  have HLc := hideIt hlc
  have HCo := hideIt hcode
  clear hlc hcode HIn h40 HLL
  go_wp2_with fail
  refine HC2.out.mono ?_
  clear HC2
  rintro e W8 ⟨hb8, ⟨m, hm0, hl8, rfl⟩ | ⟨hl8, ov, rfl, ho1, ho2⟩⟩
  · exact absurd (lcTold_one hl8 HLc.out) hm0
  · have HB8 := hideIt (St.belJ HB7.out hb8)
    obtain ⟨va, vl, vc, rfl⟩ : ∃ va vl vc, ov = .slice va vl vc := by
      by_cases h1 : (searchM (srB 1 L (20000 : Int).toNat)).code = 1
      · obtain ⟨a, c, e⟩ := ownsRow_slice (ho1 h1)
        exact ⟨_, _, _, e⟩
      · exact ⟨_, _, _, ho2 h1⟩
    have hne : ((((searchM (srB 1 L (20000 : Int).toNat)).code : Nat) : Int) != 2) = true := by
      have : (searchM (srB 1 L (20000 : Int).toNat)).code ≠ 2 := HCo.out
      exact bne_iff_ne.2 fun e => this (by omega)
    generalize (((searchM (srB 1 L (20000 : Int).toNat)).code : Nat) : Int) = cd at *
    generalize (((searchM (srB 1 L (20000 : Int).toNat)).ent.length : Nat) : Int) = en at *
    clear ho1 ho2 hl8 hb8 HB7 HCo HLc
    have HB9 := hideIt (St.belA HB8.out (.cells #[.int .i64 cd, .slice va vl vc, .int .i64 en] 71))
    go_wp2
    go_ret
    exact ⟨rfl, HB9.out⟩
end Go.Proofs.YtncnojgemmcplaaGreatDoor
