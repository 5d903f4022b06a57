/-
  The statements' sameStory, walked: what the program tells of its base is what the document's base holds.
-/
import Derived.Test.YtaopigjhdkdklaaDoorPsMZ
import Derived.Test.YtaopigjhdkdklaaDoorPwAZ
import Derived.Test.YtaopigjhdkdklaaDoorSmJ
import Derived.Test.YtaopigjhdkdklaaDoorDcW
import Derived.BigQuiet
import Derived.DeepKeys
namespace Go.Proofs.YtaopigjhdkdklaaDoor
open Go.RowKit
open Go.Instr

theorem eq61 (w : World) (x y : Int) : (Op.equalIn 10000 61 (.agg #[.int .i64 x, .int .i64 y]) (.agg #[.int .i64 x, .int .i64 y])).run Tryd.prog w = .ok true w := by
  have h3 : (Tryd.prog.info? 3).map (fun i => (i.zero, i.size, i.bytes)) = some (some (Value.int .i64 0), 1, 8) := by kernel_rfl
  obtain ⟨i, hi, _, hs, _⟩ := info_parts h3
  rw [show (10000 : Nat) = 9999 + 1 from rfl, run_equalIn_array (P := Tryd.prog) w 9999 (t := 61) (e := 3) (n := 2) _ _ (by kernel_rfl) hi]
  have hc : Tryd.prog.cellsOf 3 = 1 := by kernel_rfl
  have he : Tryd.prog.plainKey 3 = true := by kernel_rfl
  have hx : ∀ v : Int, (Op.equalIn 9999 3 (.int .i64 v) (.int .i64 v)).run Tryd.prog w = .ok true w := fun v => by
    rw [show (9999 : Nat) = 9998 + 1 from rfl, run_equalIn_int w 9998 3 .i64 .i64 v v Tryd.underlying3]; simp
  have h0 := run_part_plain (P := Tryd.prog) w he (xs := #[Value.int .i64 x, .int .i64 y]) (off := 0 * 1) (v := .int .i64 x) rfl
  have h1 := run_part_plain (P := Tryd.prog) w he (xs := #[Value.int .i64 x, .int .i64 y]) (off := 1 * 1) (v := .int .i64 y) rfl
  rw [show List.range 2 = [0, 1] from rfl, hc]
  simp only [Op.eqItems, Sem.run_bind, h0, h1, hx, Result.andThen_ok, Bool.not_true, Bool.false_eq_true, if_false, Sem.run_pure]
theorem two_ne (x y : Int) (w : World) : (binOp BinOp.neq 61 (.agg #[.int .i64 x, .int .i64 y]) (.agg #[.int .i64 x, .int .i64 y])).run Tryd.prog w = .ok (.bool false) w := by
  go_simp
  rw [eq61]
  rfl
theorem ints_hasI {w : World} {a : Option Addr} {cap : Nat} {l : List Int} (h : IntsQ w a l) (hc : l.length ≤ cap) : HasI w (.slice a l.length cap) l := by
  refine ⟨a, cap, rfl, hc, fun i hi => ?_⟩
  rcases h with h | ⟨b, off, rfl, _, h⟩
  · rw [h] at hi; simp at hi
  · exact ⟨b, off, rfl, h i hi⟩
section
variable {w0 w1 W : World} {kp : PrK} {kd : DbK} {c : Bool} {n : Nat} {st : MvS}
theorem MvI.ord_8 (h : MvI n st) (hn : n ≤ 8) {q : Nat} (hq : q < 8) : (st.ord q).length ≤ 8 := by
  have := sub_len (A := st.ord q) (B := List.range n) (h.ord_nodup hq) (fun x hx => List.mem_range.2 ((h.ord_few hn).1 q hq x hx))
  rw [List.length_range] at this
  omega
set_option maxRecDepth 100000 in
set_option maxHeartbeats 8000000 in
theorem sameStory_any (hP : PrB w0 W kp c n st) (hD : DocB w1 W kd c n st) (hI : MvI n st) (hn : n ≤ 8) :
    Calls Tryd.prog 13 #[.pointer (some ⟨kp.B, 0, none⟩), .pointer (some ⟨kd.B, 0, none⟩)] W fun e W' => e = .returned (.bool true) ∧ Below W.heap.size W W' := by
  have hst0 := story_any hP hI hn
  rw [mv_len, mv_ord] at hst0
  have HSt := hideIt hst0
  have HSp : Hid (∀ Z, Below W.heap.size W Z → Calls Tryd.prog 18 #[.pointer (some ⟨kp.B, 0, none⟩)] Z fun e W' => ∃ a ca, e = .returned (.slice a n ca) ∧ n ≤ ca ∧ SpansQ W' a n st ∧ Below Z.heap.size Z W') := fun Z hZ => spans_any (hP.below hZ) hn
  have HD := hideIt hD
  have HI := hideIt hI
  have hn' : (n : Int) ≤ 8 := by omega
  clear hst0 hP hD hI
  go_enter Tryd.func13, Tryd.ntmps13
  go_wp2_with fail
  refine HSt.out.mono ?_
  rintro e W1 ⟨a, ca, b, cb, rfl, hq, hb1⟩
  clear HSt
  have hW2 : ∃ W2, W2 = W1.alloc (.cells #[.slice a n ca, .slice b 8 cb] 44) := ⟨_, rfl⟩
  obtain ⟨W2, hW2⟩ := hW2
  have hb2 : Below W1.heap.size W1 W2 := by rw [hW2]; exact belA (Below.refl _ _) _
  have HB2 := hideIt (belJ hb1 hb2)
  have HS2 : Hid (W2.heap[W1.heap.size]? = some (.cells #[.slice a n ca, .slice b 8 cb] 44 (0, 0))) := by rw [hW2]; exact heap_alloc_new _ _
  have HQ2 : Hid (ITxsQ W2 a (mvSt n st).txs ∧ IRowsQ W2 b (mvSt n st).ord) := ⟨hq.txs.below hb2, hq.ord.below hb2⟩
  have htc := hq.tcap
  have hoc := hq.ocap
  rw [mv_len] at htc
  rw [mv_ord] at hoc
  clear hq hb1 hb2
  go_wp2_with fail
  rw [← hW2]
  clear hW2
  generalize W1.heap.size = s at *
  refine (HSp.out _ HB2.out).mono ?_
  rintro e W3 ⟨d, cd, rfl, hcd, hsp, hb3⟩
  clear HSp
  have HB3 := hideIt (belJ HB2.out hb3)
  have HS3 : Hid (W3.heap[s]? = some (.cells #[.slice a n ca, .slice b 8 cb] 44 (0, 0))) := (hb3.block _ (lt_of_heap HS2.out)).trans HS2.out
  have HT3 := hideIt (HQ2.out.1.below hb3)
  have HO3 := hideIt (HQ2.out.2.below hb3)
  have HSp := hideIt hsp
  have HD3 := hideIt (HD.out.below HB3.out)
  have lT := (HD3.out.own_lt (.inr (.inl rfl) : kd.own n kd.T)).2
  have lR := (HD3.out.own_lt (.inr (.inr (.inl rfl)) : kd.own n kd.R)).2
  have lB := HD3.out.lt
  have ls := lt_of_heap HS3.out
  obtain ⟨_, d1, d2, d3, d4, _, _⟩ := HD3.out.cells
  have s0 : W3.cell? ⟨s, 0, none⟩ = some (.slice a n ca) := by rw [cell_of_row _ _ _ _ 44 _ HS3.out]; rfl
  have s1 : W3.cell? ⟨s, 1, none⟩ = some (.slice b 8 cb) := by rw [cell_of_row _ _ _ _ 44 _ HS3.out]; rfl
  have HX : Hid (∀ Y, Below W3.heap.size W3 Y → (Y.cell? ⟨s, 0, none⟩ = some (.slice a n ca) ∧ Y.cell? ⟨s, 1, none⟩ = some (.slice b 8 cb)) ∧ (Y.cell? ⟨kd.B, 1, none⟩ = some (.slice (some ⟨kd.T, 0, none⟩) n n) ∧ Y.cell? ⟨kd.B, 2, none⟩ = some (.slice (some ⟨kd.R, 0, none⟩) 8 8))) := fun Y hY => ⟨⟨(hY.cell (p := ⟨s, 0, none⟩) ls).trans s0, (hY.cell (p := ⟨s, 1, none⟩) ls).trans s1⟩, (hY.cell (p := ⟨kd.B, 1, none⟩) lB).trans d1, (hY.cell (p := ⟨kd.B, 2, none⟩) lB).trans d2⟩
  have HBg := hideIt (tim_at HD3.out.bg)
  have HEn := hideIt (tim_at HD3.out.en)
  have HL : Hid (kd.T < W3.heap.size ∧ kd.R < W3.heap.size ∧ kd.B < W3.heap.size ∧ W3.cell? ⟨kd.B, 3, none⟩ = some kd.vb ∧ W3.cell? ⟨kd.B, 4, none⟩ = some kd.ve) := ⟨lT, lR, lB, d3, d4⟩
  clear hb3 hsp lT lR lB ls d1 d2 d3 d4 s0 s1 HB2 HS2 HQ2 HS3 HD
  go_wp2_with fail
  obtain ⟨⟨z0, z1⟩, z2, z3⟩ := HX.out W3 (Below.refl _ _)
  go_quiet (fail)
  clear z0 z1 z2 z3
  generalize h4 : World.drewN W3 _ = V4
  have HB4 : Hid (Below W3.heap.size W3 V4) := by rw [← h4]; exact below_drewN (Below.refl _ _) _
  clear h4
  go_wp2_with fail
  go_loopw [7] (fun v wz => ∃ i : Nat, i ≤ n ∧ v = .int .i64 i ∧ Below W3.heap.size W3 wz) (fun v _ => n - (intOf v).toNat)
  case atStart => exact ⟨0, by omega, rfl, HB4.out⟩
  case round =>
    obtain ⟨i, hi, rfl, hbi⟩ := hrel
    rename World => wi
    have HBi := hideIt hbi
    clear hbi HB4
    obtain ⟨⟨z0, z1⟩, z2, z3⟩ := HX.out wi HBi.out
    by_cases hin : i < n
    · have hin' : (i : Int) < (n : Int) := by omega
      have ha : ∃ ga off, a = some ⟨ga, off, none⟩ ∧ ga < W3.heap.size ∧ ITxAt W3 ga (off + i * 2) ⟨st.ops i, st.com i⟩ := by
        rcases HT3.out with h | ⟨ga, off, e, hg, h⟩
        · have := congrArg List.length h
          rw [mv_len] at this
          simp at this
          omega
        · refine ⟨ga, off, e, hg, ?_⟩
          have := h i (by rw [mv_len]; exact hin)
          simpa [mvSt] using this
      obtain ⟨ga, offa, rfl, hga, pa, pc, p1, hpc, _, hpo, p2⟩ := ha
      dsimp only at p1 p2 hpo hpc
      obtain ⟨qa, qc, q1, q2, hqc, hqo, _⟩ := HD3.out.wrote (fun u => HI.out.opl u) hin 0
      have hlen := HI.out.opl i
      have hd : ∃ gd off, d = some ⟨gd, off, none⟩ ∧ gd < W3.heap.size ∧ W3.cell? ⟨gd, off + i * 2, none⟩ = some (.int .i64 (st.bg i)) ∧ W3.cell? ⟨gd, off + i * 2 + 1, none⟩ = some (.int .i64 (st.en i)) := by
        rcases HSp.out with h | ⟨gd, off, e, hg, h⟩
        · omega
        · exact ⟨gd, off, e, hg, h i hin⟩
      obtain ⟨gd, offd, rfl, hgd, p3, p4⟩ := hd
      obtain ⟨ab, cbg, evb, hcb, hbg⟩ := HBg.out
      obtain ⟨gb, rfl, hgb, p5⟩ := hbg i hin
      obtain ⟨ae, ce, eve, hce, hen⟩ := HEn.out
      obtain ⟨ge, rfl, hge, p6⟩ := hen i hin
      have lgb := (ownsRow_block HD3.out.bg gb hgb).2.1
      have lge := (ownsRow_block HD3.out.en ge hge).2.1
      obtain ⟨lT, lR, lB, d3, d4⟩ := HL.out
      rw [evb] at d3
      rw [eve] at d4
      have HY : Hid (∀ Y, Below W3.heap.size W3 Y → (Y.cell? ⟨ga, offa + i * 2, none⟩ = some (.slice pa (st.ops i).length pc) ∧ Y.cell? ⟨ga, offa + i * 2 + 1, none⟩ = some (.bool (st.com i))) ∧ (Y.cell? ⟨kd.T, i * 2, none⟩ = some (.slice qa (st.ops i).length qc) ∧ Y.cell? ⟨kd.T, i * 2 + 1, none⟩ = some (.bool (st.com i))) ∧ (Y.cell? ⟨gd, offd + i * 2, none⟩ = some (.int .i64 (st.bg i)) ∧ Y.cell? ⟨gd, offd + i * 2 + 1, none⟩ = some (.int .i64 (st.en i))) ∧ (Y.cell? ⟨kd.B, 3, none⟩ = some (.slice (some ⟨gb, 0, none⟩) n cbg) ∧ Y.cell? ⟨kd.B, 4, none⟩ = some (.slice (some ⟨ge, 0, none⟩) n ce)) ∧ Y.cell? ⟨gb, i, none⟩ = some (.int .i64 (st.bg i)) ∧ Y.cell? ⟨ge, i, none⟩ = some (.int .i64 (st.en i))) := fun Y hY =>
        ⟨⟨(hY.cell (p := ⟨ga, offa + i * 2, none⟩) hga).trans p1, (hY.cell (p := ⟨ga, offa + i * 2 + 1, none⟩) hga).trans p2⟩, ⟨(hY.cell (p := ⟨kd.T, i * 2, none⟩) lT).trans q1, (hY.cell (p := ⟨kd.T, i * 2 + 1, none⟩) lT).trans q2⟩, ⟨(hY.cell (p := ⟨gd, offd + i * 2, none⟩) hgd).trans p3, (hY.cell (p := ⟨gd, offd + i * 2 + 1, none⟩) hgd).trans p4⟩, ⟨(hY.cell (p := ⟨kd.B, 3, none⟩) lB).trans d3, (hY.cell (p := ⟨kd.B, 4, none⟩) lB).trans d4⟩, (hY.cell (p := ⟨gb, i, none⟩) lgb).trans p5, (hY.cell (p := ⟨ge, i, none⟩) lge).trans p6⟩
      have HPo : Hid (∀ j (h : j < (st.ops i).length), ∃ g off, pa = some ⟨g, off, none⟩ ∧ g < W3.heap.size ∧ IOpAt W3 g (off + j * 4) (st.ops i)[j]) := fun j h => by
        rcases hpo with e | ⟨g, off, e, hg, hh⟩
        · rw [e] at h; simp at h
        · exact ⟨g, off, e, hg, hh j h⟩
      have HQo : Hid (∀ j (h : j < (st.ops i).length), ∃ g off, qa = some ⟨g, off, none⟩ ∧ g < W3.heap.size ∧ IOpAt W3 g (off + j * 4) (st.ops i)[j]) := fun j h => by
        rcases hqo with e | ⟨g, off, e, hg, hh⟩
        · rw [e] at h; simp at h
        · exact ⟨g, off, e, hg, hh j h⟩
      clear hpo hqo p1 p2 p3 p4 p5 p6 q1 q2 evb eve hbg hen lgb lge lT lR lB d3 d4 hgb hge hcb hce
      have hne := two_ne (st.bg i) (st.en i)
      generalize hOl : (st.ops i).length = nl at HY hlen hqc hpc ⊢
      generalize st.com i = cm at *
      generalize st.bg i = zb at *
      generalize st.en i = ze at *
      obtain ⟨⟨y0, y1⟩, ⟨y2, y3⟩, ⟨y4, y5⟩, ⟨y6, y7⟩, y8, y9⟩ := HY.out wi HBi.out
      go_wp2_with fail
      clear z0 z1 z2 z3 y0 y1 y2 y3 y4 y5 y6 y7 y8 y9
      have hW5 : ∃ W5, W5 = wi.alloc (.cells #[.slice qa nl qc, .bool cm] 90) := ⟨_, rfl⟩
      obtain ⟨W5, hW5⟩ := hW5
      rw [← hW5]
      have HB5 : Hid (Below W3.heap.size W3 W5) := by rw [hW5]; exact belA HBi.out _
      have h5 : W5.heap[wi.heap.size]? = some (.cells #[.slice qa nl qc, .bool cm] 90 (0, 0)) := by rw [hW5]; exact heap_alloc_new _ _
      have HH5 := hideIt h5
      clear hW5
      generalize wi.heap.size = tx at *
      obtain ⟨⟨z0, z1⟩, z2, z3⟩ := HX.out W5 HB5.out
      obtain ⟨⟨y0, y1⟩, ⟨y2, y3⟩, ⟨y4, y5⟩, ⟨y6, y7⟩, y8, y9⟩ := HY.out W5 HB5.out
      have x0 : W5.cell? ⟨tx, 0, none⟩ = some (.slice qa nl qc) := by rw [cell_of_row _ _ _ _ 90 _ h5]; rfl
      have x1 : W5.cell? ⟨tx, 1, none⟩ = some (.bool cm) := by rw [cell_of_row _ _ _ _ 90 _ h5]; rfl
      clear h5
      go_quiet (fail)
      clear z0 z1 z2 z3 y0 y1 y2 y3 y4 y5 y6 y7 y8 y9 x0 x1 hne
      generalize h6 : World.drewN W5 _ = V6
      have HB6 : Hid (Below W5.heap.size W5 V6) := by rw [← h6]; exact below_drewN (Below.refl _ _) _
      clear h6
      go_wp2_with fail
      go_loopw [9] (fun v wz => ∃ j : Nat, j ≤ nl ∧ v = .int .i64 j ∧ Below W5.heap.size W5 wz) (fun v _ => nl - (intOf v).toNat)
      case atStart => exact ⟨0, by omega, rfl, HB6.out⟩
      case round =>
        obtain ⟨j, hj, rfl, hbj⟩ := hrel
        rename World => wj
        have HBj := hideIt hbj
        clear hbj HB6
        have HBj3 := hideIt (belJ HB5.out HBj.out)
        have hj5 := (HBj.out.block _ (lt_of_heap HH5.out)).trans HH5.out
        have x0 : wj.cell? ⟨tx, 0, none⟩ = some (.slice qa nl qc) := by rw [cell_of_row _ _ _ _ 90 _ hj5]; rfl
        clear hj5
        by_cases hjl : j < nl
        · have hjl' : (j : Int) < (nl : Int) := by omega
          obtain ⟨gp, offp, rfl, hgp, o1, o2, o3, o4⟩ := HPo.out j (by omega)
          obtain ⟨gq, offq, rfl, hgq, r1, r2, r3, r4⟩ := HQo.out j (by omega)
          have HZ : Hid (∀ Y, Below W3.heap.size W3 Y → (Y.cell? ⟨gp, offp + j * 4, none⟩ = _ ∧ Y.cell? ⟨gp, offp + j * 4 + 1, none⟩ = _ ∧ Y.cell? ⟨gp, offp + j * 4 + 2, none⟩ = _ ∧ Y.cell? ⟨gp, offp + j * 4 + 3, none⟩ = _) ∧ (Y.cell? ⟨gq, offq + j * 4, none⟩ = _ ∧ Y.cell? ⟨gq, offq + j * 4 + 1, none⟩ = _ ∧ Y.cell? ⟨gq, offq + j * 4 + 2, none⟩ = _ ∧ Y.cell? ⟨gq, offq + j * 4 + 3, none⟩ = _)) := fun Y hY => ⟨⟨(hY.cell (p := ⟨gp, offp + j * 4, none⟩) hgp).trans o1, (hY.cell (p := ⟨gp, offp + j * 4 + 1, none⟩) hgp).trans o2, (hY.cell (p := ⟨gp, offp + j * 4 + 2, none⟩) hgp).trans o3, (hY.cell (p := ⟨gp, offp + j * 4 + 3, none⟩) hgp).trans o4⟩, (hY.cell (p := ⟨gq, offq + j * 4, none⟩) hgq).trans r1, (hY.cell (p := ⟨gq, offq + j * 4 + 1, none⟩) hgq).trans r2, (hY.cell (p := ⟨gq, offq + j * 4 + 2, none⟩) hgq).trans r3, (hY.cell (p := ⟨gq, offq + j * 4 + 3, none⟩) hgq).trans r4⟩
          clear o1 o2 o3 o4 r1 r2 r3 r4
          generalize (st.ops i)[j] = oo at *
          obtain ⟨ow, ok_, of, on⟩ := oo
          dsimp only at HZ
          obtain ⟨⟨z0, z1⟩, z2, z3⟩ := HX.out wj HBj3.out
          obtain ⟨⟨y0, y1⟩, ⟨y2, y3⟩, _⟩ := HY.out wj HBj3.out
          obtain ⟨⟨u0, u1, u2, u3⟩, _⟩ := HZ.out wj HBj3.out
          go_wp2_with fail
          clear z0 z1 z2 z3 y0 y1 y2 y3 u0 u1 u2 u3 x0
          have hW7 : ∃ W7, W7 = wj.alloc (.cells #[.bool ow, .int .i64 ok_, .int .i64 of, .int .i64 on] 84) := ⟨_, rfl⟩
          obtain ⟨W7, hW7⟩ := hW7
          rw [← hW7]
          have HB7 : Hid (Below W5.heap.size W5 W7) := by rw [hW7]; exact belA HBj.out _
          have h7 : W7.heap[wj.heap.size]? = some (.cells #[.bool ow, .int .i64 ok_, .int .i64 of, .int .i64 on] 84 (0, 0)) := by rw [hW7]; exact heap_alloc_new _ _
          have h7t := (HB7.out.block _ (lt_of_heap HH5.out)).trans HH5.out
          clear hW7
          generalize wj.heap.size = op at *
          have x0 : W7.cell? ⟨tx, 0, none⟩ = some (.slice (some ⟨gq, offq, none⟩) nl qc) := by rw [cell_of_row _ _ _ _ 90 _ h7t]; rfl
          have v0 : W7.cell? ⟨op, 0, none⟩ = some (.bool ow) := by rw [cell_of_row _ _ _ _ 84 _ h7]; rfl
          have v1 : W7.cell? ⟨op, 1, none⟩ = some (.int .i64 ok_) := by rw [cell_of_row _ _ _ _ 84 _ h7]; rfl
          have v2 : W7.cell? ⟨op, 2, none⟩ = some (.int .i64 of) := by rw [cell_of_row _ _ _ _ 84 _ h7]; rfl
          have v3 : W7.cell? ⟨op, 3, none⟩ = some (.int .i64 on) := by rw [cell_of_row _ _ _ _ 84 _ h7]; rfl
          obtain ⟨_, u0, u1, u2, u3⟩ := HZ.out W7 (belJ HB5.out HB7.out)
          clear h7 h7t
          go_quiet (fail)
          clear x0 v0 v1 v2 v3 u0 u1 u2 u3
          generalize h8 : World.drewN W7 _ = V8
          have HB8 : Hid (Below W5.heap.size W5 V8) := by rw [← h8]; exact below_drewN HB7.out _
          clear h8
          go_wp2_with fail
          go_roundw
          case rel => exact ⟨j + 1, by omega, by go_num, HB8.out⟩
          case measure => simp [intOf]; omega
        · have hjl' : ¬ (j : Int) < (nl : Int) := by omega
          go_wp2_with fail
          go_roundw
          case rel => exact ⟨i + 1, by omega, by go_num, HBj3.out⟩
          case measure => simp [intOf]; omega
    · have hin' : ¬ (i : Int) < (n : Int) := by omega
      go_wp2_with fail
      clear z0 z1 z2 z3
      go_loopw [11] (fun v wz => ∃ q : Nat, q ≤ 8 ∧ v = .int .i64 q ∧ Below W3.heap.size W3 wz) (fun v _ => 8 - (intOf v).toNat)
      case atStart => exact ⟨0, by omega, rfl, HBi.out⟩
      case round =>
        obtain ⟨q, hq, rfl, hbq⟩ := hrel
        rename World => wq
        have HBq := hideIt hbq
        clear hbq HBi
        obtain ⟨⟨z0, z1⟩, z2, z3⟩ := HX.out wq HBq.out
        by_cases hq8 : q < 8
        · have hq8' : (q : Int) < 8 := by omega
          have hr : ∃ gr off, b = some ⟨gr, off, none⟩ ∧ gr < W3.heap.size ∧ IRowAt W3 gr (off + q) ((st.ord q).map fun x : Nat => (x : Int)) := by
            rcases HO3.out with h | ⟨gr, off, e, hg, h⟩
            · have := congrArg List.length h
              rw [mv_ord] at this
              simp at this
            · refine ⟨gr, off, e, hg, ?_⟩
              have := h q (by rw [mv_ord]; exact hq8)
              simpa [mvSt] using this
          obtain ⟨gr, offr, rfl, hgr, ra, rc, p1, hrc, _, hri⟩ := hr
          obtain ⟨r1, r2⟩ := HD3.out.rw_ q hq8
          have lR := HL.out.2.1
          obtain ⟨va, vc, ev, hvc, hvq⟩ := num_hasI r2
          rw [ev] at r1
          have h8 := HI.out.ord_8 hn hq8
          have HSm : Hid (∀ Z, Below W3.heap.size W3 Z → Calls Tryd.prog 30 #[.slice ra ((st.ord q).map fun x : Nat => (x : Int)).length rc, .slice va ((st.ord q).map fun x : Nat => (x : Int)).length vc] Z fun e w' => e = .returned (.bool true) ∧ Below Z.heap.size Z w') := fun Z hZ =>
            sameInts_any _ (by rw [List.length_map]; omega) _ _ Z ((ints_hasI hri hrc).below hZ) (by rw [← ev]; exact (num_hasI r2).below hZ)
          have HY : Hid (∀ Y, Below W3.heap.size W3 Y → (Y.cell? ⟨s, 1, none⟩ = some (.slice (some ⟨gr, offr, none⟩) 8 cb) ∧ Y.cell? ⟨kd.B, 2, none⟩ = some (.slice (some ⟨kd.R, 0, none⟩) 8 8)) ∧ Y.cell? ⟨gr, offr + q, none⟩ = some (.slice ra ((st.ord q).map fun x : Nat => (x : Int)).length rc) ∧ Y.cell? ⟨kd.R, q, none⟩ = some (.slice va ((st.ord q).map fun x : Nat => (x : Int)).length vc)) := fun Y hY => ⟨⟨(HX.out Y hY).1.2, (HX.out Y hY).2.2⟩, (hY.cell (p := ⟨gr, offr + q, none⟩) hgr).trans p1, (hY.cell (p := ⟨kd.R, q, none⟩) lR).trans r1⟩
          clear p1 r1 r2 ev hvq hri
          generalize ((st.ord q).map fun x : Nat => (x : Int)).length = lq at *
          go_wp2_with fail
          clear z0 z1 z2 z3
          refine wp_region_held_drew (S := (fun w' => Below W3.heap.size W3 w')) (by kernel_rfl) HBq.out.drew (fun hHeld => ?_)
          refine wpAnyH_take (i := 0) (v := ?_) rfl (by kernel_rfl) (by kernel_rfl) (by kernel_rfl) (fun _ _ _ h => h) (Or.inl ⟨by rfl, ?_⟩) (by assumption) ?_
          rotate_left 1
          · intro wz sb
            obtain ⟨⟨y0,y1⟩, y2, y3⟩ := HY.out wz sb
            go_simp
            all_goals with_reducible rfl
          simp only [Act.put, List.setIfInBounds_toArray, List.set_cons_zero, List.set_cons_succ, List.getElem_toArray, List.getElem_cons_zero]
          refine wpAnyH_take (i := 1) (v := ?_) rfl (by kernel_rfl) (by kernel_rfl) (by kernel_rfl) (fun _ _ _ h => h) (Or.inl ⟨by rfl, ?_⟩) (by assumption) ?_
          rotate_left 1
          · intro wz sb
            obtain ⟨⟨y0,y1⟩, y2, y3⟩ := HY.out wz sb
            go_simp
            all_goals with_reducible rfl
          simp only [Act.put, List.setIfInBounds_toArray, List.set_cons_zero, List.set_cons_succ, List.getElem_toArray, List.getElem_cons_zero, List.getElem_cons_succ]
          refine wpAnyH_take (i := 2) (v := ?_) rfl (by kernel_rfl) (by kernel_rfl) (by kernel_rfl) (fun _ _ _ h => h) (Or.inl ⟨by rfl, ?_⟩) (by assumption) ?_
          rotate_left 1
          · intro wz sb
            obtain ⟨⟨y0,y1⟩, y2, y3⟩ := HY.out wz sb
            go_simp
            all_goals with_reducible rfl
          simp only [Act.put, List.setIfInBounds_toArray, List.set_cons_zero, List.set_cons_succ, List.getElem_toArray, List.getElem_cons_zero, List.getElem_cons_succ]
          refine wpAnyH_take (i := 3) (v := ?_) rfl (by kernel_rfl) (by kernel_rfl) (by kernel_rfl) (fun _ _ _ h => h) (Or.inl ⟨by rfl, ?_⟩) (by assumption) ?_
          rotate_left 1
          · intro wz sb
            obtain ⟨⟨y0,y1⟩, y2, y3⟩ := HY.out wz sb
            go_simp
            all_goals with_reducible rfl
          simp only [Act.put, List.setIfInBounds_toArray, List.set_cons_zero, List.set_cons_succ, List.getElem_toArray, List.getElem_cons_zero, List.getElem_cons_succ]
          refine wpAnyH_take (i := 4) (v := ?_) rfl (by kernel_rfl) (by kernel_rfl) (by kernel_rfl) (fun _ _ _ h => h) (Or.inl ⟨by rfl, ?_⟩) (by assumption) ?_
          rotate_left 1
          · intro wz sb
            obtain ⟨⟨y0,y1⟩, y2, y3⟩ := HY.out wz sb
            go_simp
            all_goals with_reducible rfl
          simp only [Act.put, List.setIfInBounds_toArray, List.set_cons_zero, List.set_cons_succ, List.getElem_toArray, List.getElem_cons_zero, List.getElem_cons_succ]
          refine wpAnyH_take (i := 5) (v := ?_) rfl (by kernel_rfl) (by kernel_rfl) (by kernel_rfl) (fun _ _ _ h => h) (Or.inl ⟨by rfl, ?_⟩) (by assumption) ?_
          rotate_left 1
          · intro wz sb
            obtain ⟨⟨y0,y1⟩, y2, y3⟩ := HY.out wz sb
            go_simp
            all_goals with_reducible rfl
          simp only [Act.put, List.setIfInBounds_toArray, List.set_cons_zero, List.set_cons_succ, List.getElem_toArray, List.getElem_cons_zero, List.getElem_cons_succ]
          refine wpAnyH_take (i := 6) (v := ?_) rfl (by kernel_rfl) (by kernel_rfl) (by kernel_rfl) (fun _ _ _ h => h) (Or.inl ⟨by rfl, ?_⟩) (by assumption) ?_
          rotate_left 1
          · intro wz sb
            obtain ⟨⟨y0,y1⟩, y2, y3⟩ := HY.out wz sb
            go_simp
            all_goals with_reducible rfl
          simp only [Act.put, List.setIfInBounds_toArray, List.set_cons_zero, List.set_cons_succ, List.getElem_toArray, List.getElem_cons_zero, List.getElem_cons_succ]
          refine wpAnyH_take (i := 7) (v := ?_) rfl (by kernel_rfl) (by kernel_rfl) (by kernel_rfl) (fun _ _ _ h => h) (Or.inl ⟨by rfl, ?_⟩) (by assumption) ?_
          rotate_left 1
          · intro wz sb
            obtain ⟨⟨y0,y1⟩, y2, y3⟩ := HY.out wz sb
            go_simp
            all_goals with_reducible rfl
          simp only [Act.put, List.setIfInBounds_toArray, List.set_cons_zero, List.set_cons_succ, List.getElem_toArray, List.getElem_cons_zero, List.getElem_cons_succ]
          refine wpAnyH_take (i := 8) (v := ?_) rfl (by kernel_rfl) (by kernel_rfl) (by kernel_rfl) (fun _ _ _ h => h) (Or.inl ⟨by rfl, ?_⟩) (by assumption) ?_
          rotate_left 1
          · intro wz sb
            obtain ⟨⟨y0,y1⟩, y2, y3⟩ := HY.out wz sb
            go_simp
            all_goals with_reducible rfl
          simp only [Act.put, List.setIfInBounds_toArray, List.set_cons_zero, List.set_cons_succ, List.getElem_toArray, List.getElem_cons_zero, List.getElem_cons_succ]
          refine wpAnyH_take (i := 9) (v := ?_) rfl (by kernel_rfl) (by kernel_rfl) (by kernel_rfl) (fun _ _ _ h => h) (Or.inl ⟨by rfl, ?_⟩) (by assumption) ?_
          rotate_left 1
          · intro wz sb
            obtain ⟨⟨y0,y1⟩, y2, y3⟩ := HY.out wz sb
            go_simp
            all_goals with_reducible rfl
          simp only [Act.put, List.setIfInBounds_toArray, List.set_cons_zero, List.set_cons_succ, List.getElem_toArray, List.getElem_cons_zero, List.getElem_cons_succ]
          refine wpAnyH_take (i := 10) (v := ?_) rfl (by kernel_rfl) (by kernel_rfl) (by kernel_rfl) (fun _ _ _ h => h) (Or.inl ⟨by rfl, ?_⟩) (by assumption) ?_
          rotate_left 1
          · intro wz sb
            obtain ⟨⟨y0,y1⟩, y2, y3⟩ := HY.out wz sb
            go_simp
            all_goals with_reducible rfl
          simp only [Act.put, List.setIfInBounds_toArray, List.set_cons_zero, List.set_cons_succ, List.getElem_toArray, List.getElem_cons_zero, List.getElem_cons_succ]
          refine wpAnyH_take (i := 11) (v := ?_) rfl (by kernel_rfl) (by kernel_rfl) (by kernel_rfl) (fun _ _ _ h => h) (Or.inl ⟨by rfl, ?_⟩) (by assumption) ?_
          rotate_left 1
          · intro wz sb
            obtain ⟨⟨y0,y1⟩, y2, y3⟩ := HY.out wz sb
            go_simp
            all_goals with_reducible rfl
          simp only [Act.put, List.setIfInBounds_toArray, List.set_cons_zero, List.set_cons_succ, List.getElem_toArray, List.getElem_cons_zero, List.getElem_cons_succ]
          refine wpAnyH_take (i := 12) (v := ?_) rfl (by kernel_rfl) (by kernel_rfl) (by kernel_rfl) (fun _ _ _ h => h) (Or.inl ⟨by rfl, ?_⟩) (by assumption) ?_
          rotate_left 1
          · intro wz sb
            obtain ⟨⟨y0,y1⟩, y2, y3⟩ := HY.out wz sb
            go_simp
            all_goals with_reducible rfl
          simp only [Act.put, List.setIfInBounds_toArray, List.set_cons_zero, List.set_cons_succ, List.getElem_toArray, List.getElem_cons_zero, List.getElem_cons_succ]
          refine wpAnyH_ready (rs := [13]) (by kernel_rfl) (by simp) (AllReadyH.cons rfl (fun K hK => ?_) AllReadyH.nil)
          go_simp
          refine (HSm.out _ hHeld).mono ?_
          rintro e W9 ⟨rfl, hb9⟩
          refine hK.out _ _ (belJ hHeld hb9) (fun hHeld => ?_)
          clear hK K hb9
          refine wpAnyH_take (i := 14) (v := ?_) rfl (by kernel_rfl) (by kernel_rfl) (by kernel_rfl) (fun _ _ _ h => h) (Or.inl ⟨by rfl, ?_⟩) (by assumption) ?_
          rotate_left 1
          · intro wz sb
            obtain ⟨⟨y0,y1⟩, y2, y3⟩ := HY.out wz sb
            go_simp
            all_goals with_reducible rfl
          simp only [Act.put, List.setIfInBounds_toArray, List.set_cons_zero, List.set_cons_succ, List.getElem_toArray, List.getElem_cons_zero, List.getElem_cons_succ]
          refine wpAnyH_done (by kernel_rfl) ?_ _
          go_wp2_with fail
          go_roundw
          case rel => exact ⟨q + 1, by omega, by go_num, hHeld⟩
          case measure => simp [intOf]; omega
        · have hq8' : ¬ (q : Int) < 8 := by omega
          go_wp2
          go_ret
          exact ⟨rfl, belJ HB3.out HBq.out⟩
end
end Go.Proofs.YtaopigjhdkdklaaDoor
