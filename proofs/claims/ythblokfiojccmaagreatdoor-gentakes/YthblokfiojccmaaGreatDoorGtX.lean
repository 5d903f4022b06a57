/-
  GenTakes: the calls, one behind the other.
-/
import Derived.Test.YthblokfiojccmaaGreatDoorGtW
import Derived.Test.YthblokfiojccmaaGreatDoorGpR
import Derived.Deep.RegionHeld3
namespace Go.Proofs.YthblokfiojccmaaGreatDoor.Gn
open Go.RowKit

theorem tpAt_new2 (w0 w : World) (base : Nat) (v : Value) (xs : List Int) (ty : TypeId) (hq : InQ w0 v xs) (hf : Fr [] w0 w) (hb : w0.heap.size ≤ base) (hb2 : base ≤ w.heap.size) : TpAt (w.alloc (.cells #[v, .int .i64 0] ty)) base w.heap.size 0 ⟨xs, 0⟩ := by
  have hnew := heap_new w (.cells #[v, .int .i64 0] ty)
  obtain ⟨a, cap, rfl, hcap, h3⟩ := hq
  refine ⟨⟨a, cap, by rw [cell_of_row _ _ _ _ _ _ hnew]; rfl, hcap, h3.imp id fun ⟨b, off, k1, k2, k3⟩ => ⟨b, off, k1, by omega, fun i hi => ?_⟩⟩, by rw [cell_of_row _ _ _ _ _ _ hnew]; rfl, frozen_of_row _ _ _ _ _ hnew, hb2⟩
  exact (World.cell?_alloc_lt _ _ _ (Nat.lt_of_lt_of_le k2 hf.size)).trans ((World.cell?_of_block (a := ⟨b, off + i, none⟩) (hf.block b k2 (by simp))).trans (k3 i hi))
theorem ClR.keep {w w' : World} {v : Value} {L : List Cl} {X : List Nat} (h : ClR w v L) (hg : Fr X w w') (hX : ∀ b, v.ownBlock = some b → b ∉ X) : ClR w' v L := by
  obtain ⟨a, cap, h1, h2, h3⟩ := h
  refine ⟨a, cap, h1, h2, h3.imp id fun ⟨b, k1, k2, k3⟩ => ⟨b, k1, Nat.lt_of_lt_of_le k2 hg.size, fun i hi => ?_⟩⟩
  have e := hg.block b k2 (hX b (by rw [h1, k1]; rfl))
  obtain ⟨q1, q2, q3⟩ := k3 i hi
  exact ⟨(World.cell?_of_block (a := ⟨b, i * 3, none⟩) e).trans q1, (World.cell?_of_block (a := ⟨b, i * 3 + 1, none⟩) e).trans q2, (World.cell?_of_block (a := ⟨b, i * 3 + 2, none⟩) e).trans q3⟩
theorem TpAt.used' {w : World} {base B o : Nat} {t : Tp} (h : TpAt w base B o t) : w.cell? ⟨B, o + 1, none⟩ = some (.int .i64 (t.u : Nat)) := h.used

/-- From a lower place on. -/
theorem GAt.lowb : ∀ {n : Nat} {w : World} {base base' : Nat} {v : Value} {g : Gt} {bs : List Nat}, GAt n w base v g bs → base' ≤ base → GAt n w base' v g bs
  | 0, _, _, _, _, _, _, h, _ => h.elim
  | _ + 1, _, _, _, _, .rd _, _, h, _ => h
  | _ + 1, _, _, _, _, .wr _ _ _, _, h, _ => h
  | n + 1, w, base, base', v, .lim g left, bs, h, hb => by
    obtain ⟨b, u, cs, h1, rfl, h2, h3, h4, h5, h6, h7, h8⟩ := h
    exact ⟨b, u, cs, h1, rfl, by omega, h3, h4, h5, h6, h7, h8.lowb hb⟩
  | n + 1, w, base, base', v, .mix l, bs, h, hb => by
    obtain ⟨b, g, cap, us, cs, h1, rfl, h2, h3, h4, h5, h6, h7, h8, h9, h10⟩ := h
    exact ⟨b, g, cap, us, cs, h1, rfl, by omega, h3, h4, h5, h6, h7, ownsRow_low' h8 hb, h9, h10.mono fun v g ds _ hp => hp.lowb hb⟩
  | n + 1, w, base, base', v, .thn l, bs, h, hb => by
    obtain ⟨b, r, g, us, cs, h1, rfl, h2, h3, h4, h5, h6, h7, ⟨o, cap, r1, r2, r3, r4, r5, r6⟩, h9, h10⟩ := h
    exact ⟨b, r, g, us, cs, h1, rfl, by omega, h3, h4, h5, h6, h7, ⟨o, cap, r1, r2, r3, by omega, r5, r6⟩, h9, h10.mono fun v g ds _ hp => hp.lowb hb⟩
theorem take_full {g0 : Gt} {t0 : Tp} {most : Nat} {L : List Cl} {g : Gt} {t : Tp} (tk : takeF 20 most g0 t0 = ⟨L ++ (takeF 20 (most - L.length) g t).l, (takeF 20 (most - L.length) g t).g, (takeF 20 (most - L.length) g t).t⟩) (h : most - L.length = 0) : (takeF 20 most g0 t0).l = L ∧ (takeF 20 most g0 t0).t = t := by
  rw [tk, h]; simp [takeF]
theorem take_end {g0 : Gt} {t0 : Tp} {most k : Nat} {L : List Cl} {g : Gt} {t : Tp} (tk : takeF 20 most g0 t0 = ⟨L ++ (takeF 20 (most - L.length) g t).l, (takeF 20 (most - L.length) g t).g, (takeF 20 (most - L.length) g t).t⟩) (h : most - L.length = k + 1) (hn : (nextF 20 g t).c = none) : (takeF 20 most g0 t0).l = L ∧ (takeF 20 most g0 t0).t = (nextF 20 g t).t := by
  rw [tk, h, takeF_none hn]; simp
theorem take_step {g0 : Gt} {t0 : Tp} {most k : Nat} {L : List Cl} {g : Gt} {t : Tp} {c : Cl} (tk : takeF 20 most g0 t0 = ⟨L ++ (takeF 20 (most - L.length) g t).l, (takeF 20 (most - L.length) g t).g, (takeF 20 (most - L.length) g t).t⟩) (h : most - L.length = k + 1) (hn : (nextF 20 g t).c = some c) : takeF 20 most g0 t0 = ⟨(L ++ [c]) ++ (takeF 20 (most - (L ++ [c]).length) (nextF 20 g t).g (nextF 20 g t).t).l, (takeF 20 (most - (L ++ [c]).length) (nextF 20 g t).g (nextF 20 g t).t).g, (takeF 20 (most - (L ++ [c]).length) (nextF 20 g t).g (nextF 20 g t).t).t⟩ := by
  have e : most - (L ++ [c]).length = k := by simp; omega
  rw [tk, h, takeF_some hn, e]
  simp

/-- Where the document's calls stand. -/
structure DtI (g0 : Gt) (t0 : Tp) (most base B : Nat) (w6 : World) (dv : Value) (bs1 : List Nat) (wx : World) (sl : Value) (L : List Cl) (g : Gt) (t : Tp) (bs : List Nat) : Prop where
  gen : DgAt 20 wx base dv g bs
  new : ∀ x ∈ bs, x ∈ bs1 ∨ w6.heap.size ≤ x
  tp : TpAt wx base B 0 t
  row : wx.ownsRow w6.heap.size 47 3 sl L.length (clCs L)
  apart : ∀ x, sl.ownBlock = some x → x ∉ bs
  len : L.length ≤ most
  use : t.u + (most - L.length) * wtF 20 g ≤ 1000000000
  fr : Fr (B :: bs1) w6 wx
  tk : takeF 20 most g0 t0 = ⟨L ++ (takeF 20 (most - L.length) g t).l, (takeF 20 (most - L.length) g t).g, (takeF 20 (most - L.length) g t).t⟩

set_option maxHeartbeats 16000000 in
set_option maxRecDepth 100000 in
theorem takes_good (l : Bt) (xs : List Int) (v : Value) (most : Nat) (w : World) (hv : ErrV w) (hp : PowT w) (hF : FineT w) (hq : InQ w v xs) (h1 : ¬ 2100 < l.length) (h2 : ¬ 200 < xs.length) (g : Gt) (hg : parseF l = some g) (hm : most ≤ 1000) :
    Calls Tryz.prog 3 #[.string (ba l), v, .int .i64 (most : Nat)] w fun e w' => e = .returned (.bool true) ∧ Fr [] w w' := by
  have hsz := ba_size l
  have HD := hideIt (dparse_any l w hv hp hF)
  have HPs := hideIt (fun W (hV : ErrV W) => parse_any l W hV)
  have HN := hideIt hg
  have HV := hideIt hv
  have HQ := hideIt hq
  obtain ⟨hht, hwt⟩ := parseF_reads hg
  obtain ⟨a8, c8, rfl, _, _⟩ := hq
  have h1' : decide ((2100 : Int) < (l.length : Int)) = false := decide_eq_false (by omega)
  have h2' : decide ((200 : Int) < (xs.length : Int)) = false := decide_eq_false (by omega)
  have hm1 : decide ((most : Int) < 0) = false := decide_eq_false (by omega)
  have hm2 : decide ((1000 : Int) < (most : Int)) = false := decide_eq_false (by omega)
  have hmu : most * wtF 20 g ≤ 1000 * 2001 := Nat.mul_le_mul hm hwt
  clear hv hp hF hg h1 h2
  go_enter Tryz.func3, Tryz.ntmps3
  go_wp2_with fail
  refine HD.out.mono ?_
  rintro y w1 ⟨hf1, ⟨g', dv, bs1, z, k1, rfl, hdg⟩ | ⟨k1, x, fl, z, _, _⟩⟩
  rotate_left 1
  · rw [HN.out] at k1; cases k1
  obtain rfl : g' = g := by rw [HN.out] at k1; exact (Option.some.inj k1).symm
  obtain ⟨db, rfl, _⟩ := hdg.ptr
  have hal1 : Fr [] w1 (w1.alloc (.cells #[.int .i64 0, .int .i64 z] 26)) := Fr.alloc _ _ _
  have HF2 := hideIt (hf1.trans hal1)
  have HDg2 := hideIt (hdg.fr hal1 (by simp))
  clear hf1 HD k1 hdg hal1
  go_wp2_with fail
  generalize w1.alloc (.cells #[.int .i64 0, .int .i64 z] 26) = W2 at *
  refine (HPs.out _ (HV.out.fr HF2.out (by simp) (by simp))).mono ?_
  rintro y w3 (⟨g4, vg, bs, k1, rfl, k2, k3⟩ | ⟨k1, _⟩)
  rotate_left 1
  · rw [HN.out] at k1; cases k1
  obtain rfl : g4 = g' := by rw [HN.out] at k1; exact (Option.some.inj k1).symm
  obtain ⟨T, x, F, hMt⟩ := met_of k2
  have hsh := hMt.shape
  subst hsh
  have hnil := hMt.nil
  have hs2 := HF2.out.size
  have hs3 := k3.size
  have hal : Fr [] w3 (w3.alloc (.cells #[.slice a8 xs.length c8, .int .i64 0] 37)) := Fr.alloc _ _ _
  have hT := tpAt_new2 w w3 w.heap.size _ xs 37 HQ.out (HF2.out.trans k3) (Nat.le_refl _) (by omega)
  have HTk := hideIt (take_any 20 most w.heap.size w3.heap.size 0 ⟨xs, 0⟩ _ _ g4 bs ((k2.fr hal (by simp)).lowb hs2) hT (fun e => by have := (k2.in_ _ e).2; omega) hm (by show 0 + most * wtF 20 g4 ≤ _; omega))
  have HF4 := hideIt ((HF2.out.trans k3).trans hal)
  have HF24 := hideIt (k3.trans hal)
  have hs4 : w3.heap.size < (w3.alloc (.cells #[.slice a8 xs.length c8, .int .i64 0] 37)).heap.size := by simp
  have HBs : Hid (∀ b ∈ bs, W2.heap.size ≤ b) := hideIt (fun b hb => (k2.in_ b hb).1)
  clear k1 k2 k3 hMt hT hal
  go_wp2_with fail
  generalize w3.alloc (.cells #[.slice a8 xs.length c8, .int .i64 0] 37) = W4 at *
  generalize w3.heap.size = B at *
  refine HTk.out.mono ?_
  rintro y w5 ⟨⟨slP, rfl, hrow⟩, htp, _, hf5, _⟩
  clear HTk
  have HF5 : Hid (Fr [] w w5) := hideIt (HF4.out.app2 hf5 (fun y hy => by
    rcases List.mem_cons.1 hy with e | e
    · exact .inr (by omega)
    · have := HBs.out y e; exact .inr (by omega)))
  have HDg5 := hideIt ((HDg2.out.fr HF24.out (by simp)).fr hf5 (fun b hb e => by
    have hb2 := (HDg2.out.in_ b hb).2
    rcases List.mem_cons.1 e with e | e
    · omega
    · have := HBs.out b e; omega))
  have HTp5 := hideIt htp
  have HRow5 := hideIt hrow
  have hs5 := hf5.size
  have hB1 : ∀ b ∈ bs1, b < w5.heap.size := fun b hb => by have := (HDg2.out.in_ b hb).2; omega
  have HB1 := hideIt hB1
  have hBsl : ∀ y, slP.ownBlock = some y → y < w5.heap.size := fun y hy => (World.ownsRow.lt hrow y hy).2
  have hBsl2 : ∀ y, slP.ownBlock = some y → W4.heap.size ≤ y := fun y hy => (World.ownsRow.lt hrow y hy).1
  have HSl := hideIt hBsl
  have HSl2 := hideIt hBsl2
  have hB0 : B < w5.heap.size := by omega
  have hal5 : Fr [] w5 (w5.alloc (.cells #[.slice a8 xs.length c8, .int .i64 0] 44)) := Fr.alloc _ _ _
  have hT6 := tpAt_new2 w w5 w.heap.size _ xs 44 HQ.out HF5.out (Nat.le_refl _) HF5.out.size
  have HI : Hid (DtI g4 ⟨xs, 0⟩ most w.heap.size w5.heap.size (w5.alloc (.cells #[.slice a8 xs.length c8, .int .i64 0] 44)) (.pointer (some ⟨db, 0, none⟩)) bs1 (w5.alloc (.cells #[.slice a8 xs.length c8, .int .i64 0] 44)) (.slice none 0 0) [] g4 ⟨xs, 0⟩ bs1) :=
    hideIt ⟨HDg5.out.fr hal5 (by simp), fun _ h => .inl h, hT6, World.ownsRow_nil _ _ _ _, fun x h => (by cases h), by simp, by show 0 + (most - 0) * wtF 20 g4 ≤ _; rw [Nat.sub_zero]; omega, Fr.refl _ _, by simp⟩
  have HTp6 := hideIt (htp.fr hal5 (by simp) (by simp))
  have HRa6 := hideIt ((clR_of hrow).keep hal5 (by simp))
  have HF6 := hideIt (HF5.out.trans hal5)
  have HF5s : Hid (w.heap.size ≤ w5.heap.size) := hideIt HF5.out.size
  have HBW : Hid (W2.heap.size ≤ B) := hideIt hs3
  have hs6 : w5.heap.size < (w5.alloc (.cells #[.slice a8 xs.length c8, .int .i64 0] 44)).heap.size := by simp
  obtain ⟨aP, cP, rfl⟩ := some_of_row hrow
  clear hrow htp hf5 hB1 hal5 hT6 hBsl hBsl2
  go_wp2
  generalize w5.alloc (.cells #[.slice a8 xs.length c8, .int .i64 0] 44) = W6 at *
  generalize w5.heap.size = B2 at *
  go_loopg [14, 15, 16] most (fun k sl _ _ wx => ∃ L g t bs, k + L.length = most ∧ DtI g4 ⟨xs, 0⟩ most w.heap.size B2 W6 (.pointer (some ⟨db, 0, none⟩)) bs1 wx sl L g t bs)
  case atStart => exact ⟨[], _, _, _, by simp, HI.out⟩
  case round =>
    clear HI
    obtain ⟨L, g, t, bs9, hk, hI⟩ := hrel
    have HM := hideIt hI
    obtain ⟨aL, cL, rfl⟩ := some_of_row hI.row
    have hwsz := hI.fr.size
    have hlenL := hI.len
    have hbs9 : B2 ∉ bs9 := fun e => by
      rcases hI.new B2 e with x | x
      · have := HB1.out B2 x; omega
      · omega
    have hB9 : B < B2 := hB0
    have HX : Hid (∀ y ∈ B2 :: bs1, w.heap.size ≤ y) := hideIt (fun y hy => by
      rcases List.mem_cons.1 hy with e | e
      · have := HF5s.out; omega
      · exact (HDg2.out.in_ y e).1)
    have HPn : Hid (∀ y, y = B ∨ (Value.slice aP (takeF 20 most g4 ⟨xs, 0⟩).l.length cP).ownBlock = some y → y ∉ B2 :: bs1) := hideIt (fun y hy e => by
      rcases List.mem_cons.1 e with e | e
      · rcases hy with h | h
        · omega
        · have := HSl.out y h; omega
      · have hb2 := (HDg2.out.in_ y e).2
        rcases hy with h | h
        · have := HBW.out; omega
        · have := HSl2.out y h; omega)
    clear hI
    cases gk with
    | zero =>
      have hLm : L.length = most := by omega
      have hge : ¬ (L.length : Int) < (most : Int) := by omega
      obtain ⟨eA, eT⟩ := take_full HM.out.tk (by omega)
      have HA := hideIt eA
      have HRa : Hid (ClR wr (.slice aP (takeF 20 most g4 ⟨xs, 0⟩).l.length cP) L) := hideIt (by rw [← HA.out]; exact HRa6.out.keep HM.out.fr (fun y hy => HPn.out y (.inr hy)))
      have HRb := hideIt (clR_of HM.out.row)
      have HTa : Hid (TpAt wr w.heap.size B 0 t) := hideIt (by rw [← eT]; exact HTp6.out.fr HM.out.fr (HPn.out B (.inl rfl)) HX.out)
      have HTb := hideIt HM.out.tp
      have HFt := hideIt (HF6.out.app2 HM.out.fr (fun y hy => .inr (HX.out y hy)))
      have hLL : (takeF 20 most g4 ⟨xs, 0⟩).l.length = L.length := by rw [eA]
      clear eA eT HM
      obtain ⟨a1, c1, e1, hc1, q1⟩ := HRa.out
      obtain ⟨a2, c2, e2, hc2, q2⟩ := HRb.out
      rw [hLL] at e1
      injection e1 with e1a _ e1c
      subst e1a e1c
      injection e2 with e2a _ e2c
      subst e2a e2c
      have HQ1 := hideIt q1
      have HQ2 := hideIt q2
      have hUs := HTb.out.used'
      have hA1 : L.length ≤ 1000 := by omega
      clear q1 q2 HRa HRb
      rw [hLL]
      clear hLL
      generalize L = A at *
      have HUd := hideIt (fun W (h : TpAt W w.heap.size B 0 t) => used_any w.heap.size B 0 t W h)
      generalize (t).u = tu at *
      go_wp2_with fail
      go_region_held3 (fun Z => Z.cell? ⟨B2, 1, none⟩ = some (.int .i64 (tu : Nat))) (go_keep) (first | (go_at_call 9; refine (HUd.out _ (HTa.out.drewN 1)).mono ?_; rintro e w7 ⟨rfl, rfl⟩))
      clear HTa HTb hUs HUd
      go_wp2
      generalize wr = W9 at *
      go_loopg [17] A.length (fun k x wx => ∃ i, k + i = A.length ∧ x = .int .i64 (i : Nat) ∧ Fr [] W9 wx)
      case atStart => exact ⟨0, by simp, rfl, Fr.drewN _ _ _⟩
      case round =>
        obtain ⟨i, hki, rfl, hfr⟩ := hrel
        have HF := hideIt hfr
        clear hfr
        cases gk with
        | zero =>
          have hge : ¬ (i : Int) < (A.length : Int) := by omega
          go_wp2
          go_ret
          exact ⟨rfl, HFt.out.trans HF.out⟩
        | succ k =>
          have hlt : (i : Int) < (A.length : Int) := by omega
          have hi : i < A.length := by omega
          have hne : A ≠ [] := fun e => by rw [e] at hi; exact absurd hi (Nat.not_lt_zero _)
          rcases HQ1.out with e | ⟨b1, rfl, k1, q1⟩
          · exact absurd e hne
          rcases HQ2.out with e | ⟨b2, rfl, k2, q2⟩
          · exact absurd e hne
          obtain ⟨x1, x2, x3⟩ := q1 i hi
          obtain ⟨y1, y2, y3⟩ := q2 i hi
          have e1 := HF.out.block b1 k1 (by simp)
          have e2 := HF.out.block b2 k2 (by simp)
          have r1 := (World.cell?_of_block (a := ⟨b1, i * 3, none⟩) e1).trans x1
          have r2 := (World.cell?_of_block (a := ⟨b1, i * 3 + 1, none⟩) e1).trans x2
          have r3 := (World.cell?_of_block (a := ⟨b1, i * 3 + 2, none⟩) e1).trans x3
          have s1 := (World.cell?_of_block (a := ⟨b2, i * 3, none⟩) e2).trans y1
          have s2 := (World.cell?_of_block (a := ⟨b2, i * 3 + 1, none⟩) e2).trans y2
          have s3 := (World.cell?_of_block (a := ⟨b2, i * 3 + 2, none⟩) e2).trans y3
          generalize A[i].wr = p1 at *
          generalize A[i].key = p2 at *
          generalize A[i].v = p3 at *
          clear HQ1 HQ2 q1 q2 x1 x2 x3 y1 y2 y3 e1 e2
          go_wp2_with fail
          go_quiet (fail)
          go_wp2
          go_roundg k
          case measure => omega
          case rel => exact ⟨i + 1, by omega, by simp, HF.out.trans (Fr.drewN _ _ _)⟩
    | succ k =>
      have hlt : (L.length : Int) < (most : Int) := by omega
      have hml : most - L.length = k + 1 := by omega
      have hu1 := HM.out.use
      rw [hml, Nat.succ_mul] at hu1
      have HDn := hideIt (allDn 20 w.heap.size B2 t wr (.pointer (some ⟨db, 0, none⟩)) g bs9 HM.out.gen HM.out.tp hbs9 (by omega))
      have HU1 := hideIt hu1
      clear hu1
      go_wp2_with fail
      refine HDn.out.mono ?_
      rintro y w7 ⟨rfl, hT7, ⟨bs', hG7, hn7⟩, hF7⟩
      clear HDn
      obtain ⟨q, kk, vv, hcl⟩ := clV_form (nextF 20 g t).c
      have hnu := nextF_use 20 g t
      have hrb : ∀ y, (Value.slice aL L.length cL).ownBlock = some y → y ∉ B2 :: bs9 := fun y hy e => by
        rcases List.mem_cons.1 e with e | e
        · have := (World.ownsRow.lt HM.out.row y hy).1; omega
        · exact HM.out.apart y hy e
      have hrow7 := ownsRow_blk HM.out.row (w' := w7) (fun y hy => hF7.block y (World.ownsRow.lt HM.out.row y hy).2 (hrb y hy))
      have hF67 : Fr (B2 :: bs1) W6 w7 := HM.out.fr.app2 hF7 (fun y hy => by
        rcases List.mem_cons.1 hy with e | e
        · exact .inl (by simp [e])
        · exact (HM.out.new y e).imp (List.mem_cons_of_mem _) id)
      have hs7 := hF7.size
      have hal7 : Fr [] w7 (w7.alloc (.cells #[.bool q, .int .i64 kk, .int .i64 vv] 47)) := Fr.alloc _ _ _
      have hF68 : Fr (B2 :: bs1) W6 (w7.alloc (.cells #[.bool q, .int .i64 kk, .int .i64 vv] 47)) := hF67.trans (hal7.more (by simp))
      have hrow8 := hrow7.alloc (.cells #[.bool q, .int .i64 kk, .int .i64 vv] 47)
      have HRow8 := hideIt hrow8
      have HT8 := hideIt (hT7.fr hal7 (by simp) (by simp))
      have HG8 := hideIt (hG7.fr hal7 (by simp))
      have HF68 := hideIt hF68
      have HCl := hideIt hcl
      have HN7 := hideIt hn7
      have hG7l : ∀ y ∈ bs', y < w7.heap.size := fun y hy => (hG7.in_ y hy).2
      have HG7l := hideIt hG7l
      unfold clV
      rw [hcl]
      generalize hok : (nextF 20 g t).c.isSome = ok
      have HOk := hideIt hok
      have HNu := hideIt hnu
      clear hok hcl hT7 hG7 hn7 hF7 hrow7 hF67 hal7 hF68 hrow8 hG7l hnu
      cases ok
      · have hnone : (nextF 20 g t).c = none := by have := HOk.out; cases h : (nextF 20 g t).c with
          | none => rfl
          | some c => rw [h] at this; cases this
        obtain ⟨eA, eT⟩ := take_end HM.out.tk hml hnone
        have HA := hideIt eA
        have HRa : Hid (ClR (w7.alloc (.cells #[.bool q, .int .i64 kk, .int .i64 vv] 47)) (.slice aP (takeF 20 most g4 ⟨xs, 0⟩).l.length cP) L) := hideIt (by rw [← HA.out]; exact HRa6.out.keep HF68.out (fun y hy => HPn.out y (.inr hy)))
        have HRb := hideIt (clR_of HRow8.out)
        have HTa : Hid (TpAt (w7.alloc (.cells #[.bool q, .int .i64 kk, .int .i64 vv] 47)) w.heap.size B 0 (nextF 20 g t).t) := hideIt (by rw [← eT]; exact HTp6.out.fr HF68.out (HPn.out B (.inl rfl)) HX.out)
        have HTb := HT8
        have HFt := hideIt (HF6.out.app2 HF68.out (fun y hy => .inr (HX.out y hy)))
        have hLL : (takeF 20 most g4 ⟨xs, 0⟩).l.length = L.length := by rw [eA]
        clear eA eT HM
        obtain ⟨a1, c1, e1, hc1, q1⟩ := HRa.out
        obtain ⟨a2, c2, e2, hc2, q2⟩ := HRb.out
        rw [hLL] at e1
        injection e1 with e1a _ e1c
        subst e1a e1c
        injection e2 with e2a _ e2c
        subst e2a e2c
        have HQ1 := hideIt q1
        have HQ2 := hideIt q2
        have hUs := HTb.out.used'
        have hA1 : L.length ≤ 1000 := by omega
        clear q1 q2 HRa HRb
        rw [hLL]
        clear hLL
        generalize L = A at *
        have HUd := hideIt (fun W (h : TpAt W w.heap.size B 0 (nextF 20 g t).t) => used_any w.heap.size B 0 (nextF 20 g t).t W h)
        generalize ((nextF 20 g t).t).u = tu at *
        go_wp2_with fail
        go_region_held3 (fun Z => Z.cell? ⟨B2, 1, none⟩ = some (.int .i64 (tu : Nat))) (go_keep) (first | (go_at_call 9; refine (HUd.out _ (HTa.out.drewN 1)).mono ?_; rintro e w7 ⟨rfl, rfl⟩))
        clear HTa HTb hUs HUd
        go_wp2
        generalize (w7.alloc (.cells #[.bool q, .int .i64 kk, .int .i64 vv] 47)) = W9 at *
        go_loopg [17] A.length (fun k x wx => ∃ i, k + i = A.length ∧ x = .int .i64 (i : Nat) ∧ Fr [] W9 wx)
        case atStart => exact ⟨0, by simp, rfl, Fr.drewN _ _ _⟩
        case round =>
          obtain ⟨i, hki, rfl, hfr⟩ := hrel
          have HF := hideIt hfr
          clear hfr
          cases gk with
          | zero =>
            have hge : ¬ (i : Int) < (A.length : Int) := by omega
            go_wp2
            go_ret
            exact ⟨rfl, HFt.out.trans HF.out⟩
          | succ k =>
            have hlt : (i : Int) < (A.length : Int) := by omega
            have hi : i < A.length := by omega
            have hne : A ≠ [] := fun e => by rw [e] at hi; exact absurd hi (Nat.not_lt_zero _)
            rcases HQ1.out with e | ⟨b1, rfl, k1, q1⟩
            · exact absurd e hne
            rcases HQ2.out with e | ⟨b2, rfl, k2, q2⟩
            · exact absurd e hne
            obtain ⟨x1, x2, x3⟩ := q1 i hi
            obtain ⟨y1, y2, y3⟩ := q2 i hi
            have e1 := HF.out.block b1 k1 (by simp)
            have e2 := HF.out.block b2 k2 (by simp)
            have r1 := (World.cell?_of_block (a := ⟨b1, i * 3, none⟩) e1).trans x1
            have r2 := (World.cell?_of_block (a := ⟨b1, i * 3 + 1, none⟩) e1).trans x2
            have r3 := (World.cell?_of_block (a := ⟨b1, i * 3 + 2, none⟩) e1).trans x3
            have s1 := (World.cell?_of_block (a := ⟨b2, i * 3, none⟩) e2).trans y1
            have s2 := (World.cell?_of_block (a := ⟨b2, i * 3 + 1, none⟩) e2).trans y2
            have s3 := (World.cell?_of_block (a := ⟨b2, i * 3 + 2, none⟩) e2).trans y3
            generalize A[i].wr = p1 at *
            generalize A[i].key = p2 at *
            generalize A[i].v = p3 at *
            clear HQ1 HQ2 q1 q2 x1 x2 x3 y1 y2 y3 e1 e2
            go_wp2_with fail
            go_quiet (fail)
            go_wp2
            go_roundg k
            case measure => omega
            case rel => exact ⟨i + 1, by omega, by simp, HF.out.trans (Fr.drewN _ _ _)⟩
      · cases hc : (nextF 20 g t).c with
        | none => have := HOk.out; rw [hc] at this; cases this
        | some c =>
          have hcl2 := HCl.out
          rw [hc] at hcl2
          have hcc : clC c = [.bool q, .int .i64 kk, .int .i64 vv] := by
            unfold clA at hcl2
            injection hcl2 with hcl2
            exact congrArg Array.toList hcl2
          have hw8s : w7.heap.size < (w7.alloc (.cells #[.bool q, .int .i64 kk, .int .i64 vv] 47)).heap.size := by simp
          have hz8 := heap_new w7 (.cells #[.bool q, .int .i64 kk, .int .i64 vv] 47)
          obtain ⟨z0, z1, z2⟩ := blk3 hz8
          obtain ⟨g2, cap2, Y, hrun, hoY, hgo, hfY⟩ := call_append (w7.alloc (.cells #[.bool q, .int .i64 kk, .int .i64 vv] 47)) W6.heap.size (.slice aL L.length cL) L.length (clCs L) q kk vv HRow8.out HF68.out.size (by omega)
          rw [World.size_alloc] at hrun
          have HRun := hideIt hrun
          have hYr : ∀ y, y ∈ (Value.ownBlock (.slice aL L.length cL)).toList → W6.heap.size ≤ y := fun y hy => by
            have e2 : Value.ownBlock (.slice aL L.length cL) = some y := by simpa using hy
            exact (World.ownsRow.lt HRow8.out y e2).1
          have hYn : ∀ y ∈ bs', y ∉ (Value.ownBlock (.slice aL L.length cL)).toList := fun y hy e => by
            have e2 : Value.ownBlock (.slice aL L.length cL) = some y := by simpa using e
            have h3 := World.ownsRow.lt HM.out.row y e2
            rcases HN7.out y hy with e3 | e3
            · exact HM.out.apart y e2 e3
            · omega
          have hYs := hfY.size
          have HNew : Hid (DtI g4 ⟨xs, 0⟩ most w.heap.size B2 W6 (.pointer (some ⟨db, 0, none⟩)) bs1 Y (.slice (some ⟨g2, 0, none⟩) (L.length + 1) cap2) (L ++ [c]) (nextF 20 g t).g (nextF 20 g t).t bs') := hideIt (by
            refine ⟨HG8.out.fr hfY hYn, fun y hy => ?_, HT8.out.fr hfY (fun e => by have := hYr B2 e; omega) (fun y hy => by have := hYr y hy; have := HF6.out.size; omega), ?_, fun y hy hm => ?_, by simp; omega, ?_, HF68.out.app2 hfY (fun y hy => .inr (hYr y hy)), take_step HM.out.tk hml hc⟩
            · rcases HN7.out y hy with e | e
              · exact HM.out.new y e
              · exact .inr (by omega)
            · rw [clCs_snoc, List.length_append, hcc]; exact hoY
            · cases hy
              have hg2 := HG7l.out g2 hm
              rcases hgo with e | e
              · have h3 := World.ownsRow.lt HM.out.row g2 e
                rcases HN7.out g2 hm with e3 | e3
                · exact HM.out.apart g2 e e3
                · omega
              · omega
            · have h3 : (most - (L ++ [c]).length) = k := by simp; omega
              rw [h3]
              have h4 : k * wtF 20 (nextF 20 g t).g ≤ k * wtF 20 g := Nat.mul_le_mul_left _ HNu.out.2
              have := HNu.out.1
              have := HU1.out
              omega)
          clear hrun hoY hfY hYr hYn hYs hcl2 hcc hz8 z0 z1 z2 hw8s hml hc
          go_wp2_with (at_builtin; refine Lib.wpList_append_run _ rfl _ _ 45 45 rfl _ _ rfl rfl _ Y HRun.out ?_)
          go_wp2
          go_roundg k
          case measure => omega
          case rel => exact ⟨L ++ [c], _, _, _, by simp; omega, HNew.out⟩

/-- GenTakes, whatever comes in. -/
theorem takes_any (l : Bt) (xs : List Int) (v : Value) (most : Int) (w : World) (hv : ErrV w) (hp : PowT w) (hF : FineT w) (hG : GlE w) (hq : InQ w v xs) :
    Calls Tryz.prog 3 #[.string (ba l), v, .int .i64 most] w fun e w' => e = .returned (.bool true) ∧ Fr [] w w' := by
  by_cases h : 2100 < l.length ∨ 200 < xs.length
  · exact takes_long l xs v most w hq h
  · cases hg : parseF l with
    | none => exact takes_none l xs v most w hv hp hF hq (fun e => h (.inl e)) (fun e => h (.inr e)) hg
    | some g =>
      by_cases hm : most < 0 ∨ 1000 < most
      · exact takes_bad l xs v most w hv hp hF hG hq (fun e => h (.inl e)) (fun e => h (.inr e)) g hg hm
      · obtain ⟨m, rfl⟩ : ∃ m : Nat, most = m := ⟨most.toNat, by omega⟩
        exact takes_good l xs v m w hv hp hF hq (fun e => h (.inl e)) (fun e => h (.inr e)) g hg (by omega)
end Go.Proofs.YthblokfiojccmaaGreatDoor.Gn
