/-
  What next gives: one behind the other; and all generators.
-/
import Derived.Test.YthblokfiojccmaaGreatDoorNxC
namespace Go.Proofs.YthblokfiojccmaaGreatDoor.Gn
open Go.RowKit Go.Shelf

theorem thnF_some {nx : Gt → Tp → Gv} {g : Gt} {l : List Gt} {t : Tp} {c : Cl} (h : (nx g t).c = some c) : thnF nx (g :: l) t = ⟨some c, .thn ((nx g t).g :: l), (nx g t).t⟩ := by
  simp only [thnF]; rw [h]
theorem thnF_none {nx : Gt → Tp → Gv} {g : Gt} {l : List Gt} {t : Tp} (h : (nx g t).c = none) : thnF nx (g :: l) t = thnF nx l (nx g t).t := by
  simp only [thnF]; rw [h]

/-- Where the loop stands. -/
structure ThnI (n base B o b : Nat) (t0 : Tp) (w : World) (l0 : List Gt) (bs0 : List Nat) (wx : World) (l : List Gt) (t : Tp) (bs : List Nat) : Prop where
  gen : GAt (n + 1) wx base (.iface 95 (.pointer (some ⟨b, 0, none⟩))) (.thn l) bs
  sub : ∀ x ∈ bs, x ∈ bs0
  tp : TpAt wx base B o t
  use : t.u + wtF (n + 1) (.thn l) ≤ 1000000000
  fr : Fr (B :: bs0) w wx
  oth : ∀ p : Addr, p.block = B → p ≠ ⟨B, o + 1, none⟩ → wx.cell? p = w.cell? p ∧ wx.frozen? p = w.frozen? p
  res : wx.heap[w.heap.size]? = some (.cells #[.bool false, .int .i64 0, .int .i64 0] 51)
  nx : nextF (n + 1) (.thn l0) t0 = thnF (nextF n) l t

set_option maxHeartbeats 8000000 in
set_option maxRecDepth 100000 in
theorem then_next {n : Nat} (ih : AllNx n) (base B o b : Nat) (t0 : Tp) (w : World) (l0 : List Gt) (bs0 : List Nat) (h : GAt (n + 1) w base (.iface 95 (.pointer (some ⟨b, 0, none⟩))) (.thn l0) bs0) (ht : TpAt w base B o t0) (hB : B ∉ bs0) (hu : t0.u + wtF (n + 1) (.thn l0) ≤ 1000000000) :
    Calls Tryz.prog 120 #[.pointer (some ⟨b, 0, none⟩), .pointer (some ⟨B, o, none⟩)] w (NxTold (n + 1) base B o t0 w (.iface 95 (.pointer (some ⟨b, 0, none⟩))) (.thn l0) bs0) := by
  have hfr : ∀ X, Fr X w (w.alloc (.cells #[.bool false, .int .i64 0, .int .i64 0] 51)) := fun X => Fr.alloc _ _ _
  have HI : Hid (ThnI n base B o b t0 w l0 bs0 (w.alloc (.cells #[.bool false, .int .i64 0, .int .i64 0] 51)) l0 t0 bs0) :=
    ⟨h.fr (hfr []) (by simp), fun _ hx => hx, ht.fr (hfr []) (by simp) (by simp), hu, hfr _, fun p hp _ => oth_of (hfr []) ht.lt (by simp) p hp, heap_new _ _, by rw [nextF]⟩
  have hBlt := ht.lt
  have hlo := ht.lo
  have hb0 : ∀ x ∈ bs0, base ≤ x ∧ x < w.heap.size := fun x hx => h.in_ x hx
  have HB0 := hideIt hb0
  have HBn := hideIt hB
  clear h ht hb0 hfr hB hu
  go_enter Tryz.func120, Tryz.ntmps120
  go_wp2
  go_loopg [6, 7] l0.length (fun g _ _ wx => ∃ l t bs, g = l.length ∧ ThnI n base B o b t0 w l0 bs0 wx l t bs)
  case atStart => exact ⟨l0, t0, bs0, rfl, HI.out⟩
  case round =>
    obtain ⟨l, t, bs, hg, hI⟩ := hrel
    have HM := hideIt hI
    obtain ⟨⟨b', r, g, us, cs, e1, rfl, h2, h3, h4, h5, h6, h7, ⟨off, cap, rfl, r2, r3, r4, r5, r6⟩, h9, h10⟩, hsub, htp, huse, hfr, hoth, hres, hnx⟩ := hI
    cases e1
    have hblt : b < wr.heap.size := World.block_lt_of_cell? wr _ h6
    have hzz := hfr.size
    have hwr : w.heap.size < wr.heap.size := (Array.getElem?_eq_some_iff.1 hres).1
    cases h10 with
    | nil =>
      obtain ⟨z0, z1, z2⟩ := blk3 hres
      have f0 := frozen_of_row wr w.heap.size 0 _ 51 hres
      have f1 := frozen_of_row wr w.heap.size 1 _ 51 hres
      have f2 := frozen_of_row wr w.heap.size 2 _ 51 hres
      clear hfr hoth hres hnx huse htp hsub r6
      simp only [List.length_nil] at h6
      go_wp2
      change bodyPost _ _ _ _ _ (set3 wr w.heap.size (.bool false) (.int .i64 0) (.int .i64 0))
      refine bodyPost_ret (results_two rfl _ _ _ _ rfl (load_set3 z0 z1 z2)) rfl ?_
      exact (told_set3 (ok := false) HM.out.nx rfl rfl HM.out.fr HM.out.oth HM.out.tp HM.out.gen HM.out.sub HB0.out hBlt)
    | @cons u g1 ds us l cs hP hs ha =>
      obtain ⟨T, x, F, hMt⟩ := met_of hP
      have hsh := hMt.shape
      subst hsh
      have hnil := hMt.nil
      have hmet := hMt.met
      have hent := hMt.ent
      have hul : us.length = l.length := hs.len
      have hgt : (0 : Int) < ((us.length + 1 : Nat) : Int) := by omega
      have hux : wr.cell? ⟨g, off, none⟩ = some (.iface T x) := r6 0 (by simp)
      have HR6 := hideIt r6
      have HU : Hid (wtF n g1 + wtF (n + 1) (.thn l) = wtF (n + 1) (.thn (g1 :: l))) := hideIt (by simp [wtF])
      have HP := hideIt hP
      have HRest := hideIt hs
      have HA := hideIt ha
      have HMt := hideIt hMt
      have hBn := HBn.out
      have hbs0 : b ∈ bs0 := HM.out.sub b (by simp)
      have hgs0 : g ∈ bs0 := HM.out.sub g (by simp)
      have hBb : B ≠ b := fun e => hBn (e ▸ hbs0)
      have hBg : B ≠ g := fun e => hBn (e ▸ hgs0)
      have hBd : B ∉ ds := fun e => hBn (HM.out.sub B (by simp [e]))
      have hT1 := HM.out.tp
      have hbon : t.u + wtF n g1 ≤ 1000000000 := by have := HU.out; omega
      have hglt : g < wr.heap.size := r5
      simp only [List.length_cons] at h6 r2
      clear hP hs ha hMt hfr hoth hres hnx htp hsub r6
      have HT1 := hideIt hT1
      clear hT1
      go_wp2_with fail
      refine (ih base B o t wr _ g1 ds HP.out HT1.out hBd hbon T x F HMt.out).mono ?_
      rintro y W2 ⟨rfl, hT2, ⟨ds', hG2, hds'⟩, hF2, hO2⟩
      have hnu := nextF_use n g1 t
      obtain ⟨q, kk, vv, hcl⟩ := clV_form (nextF n g1 t).c
      have hno : ∀ y, y ∈ bs0 → y ∉ ds → y ∉ B :: ds := fun y hy hn e => by
        rcases List.mem_cons.1 e with e | e
        · exact hBn (e ▸ hy)
        · exact hn e
      have hbd : b ∉ ds := fun e => h4 (by simp [e])
      have hgd : g ∉ ds := fun e => h5 (by simp [e])
      have hk2 : W2.heap[b]? = wr.heap[b]? := hF2.block b (by omega) (hno b hbs0 hbd)
      have hkg2 : W2.heap[g]? = wr.heap[g]? := hF2.block g (by omega) (hno g hgs0 hgd)
      have b0 := (World.cell?_of_block (a := ⟨b, 0, none⟩) hk2).trans h6
      have b2 := (World.frozen?_of_block (a := ⟨b, 0, none⟩) hk2).trans h7
      have HR2c : Hid (∀ j, (h : j < us.length) → W2.cell? ⟨g, off + 1 + j, none⟩ = some us[j]) := fun j hj => by
        have := HR6.out (j + 1) (by simp; omega)
        rw [show off + 1 + j = off + (j + 1) by omega]
        exact (World.cell?_of_block (a := ⟨g, off + (j + 1), none⟩) hkg2).trans (by simpa using this)
      have HR2z : Hid (W2.cell? ⟨g, off, none⟩ = some (.iface T x)) := (World.cell?_of_block (a := ⟨g, off, none⟩) hkg2).trans hux
      have hs2 := hF2.size
      have hw1 : w.heap.size ∉ B :: ds := fun e => by
        rcases List.mem_cons.1 e with e | e
        · omega
        · have := (HB0.out _ (HM.out.sub w.heap.size (by simp [e]))).2; omega
      have hr2 := (hF2.block w.heap.size (by omega) hw1).trans HM.out.res
      obtain ⟨z0, z1, z2⟩ := blk3 hr2
      have f0 := frozen_of_row W2 w.heap.size 0 _ 51 hr2
      have f1 := frozen_of_row W2 w.heap.size 1 _ 51 hr2
      have f2 := frozen_of_row W2 w.heap.size 2 _ 51 hr2
      have HR2 := hideIt hr2
      have nb : b < W2.heap.size := by omega
      have nb1 : ¬ b = W2.heap.size := by omega
      have nb2 : ¬ W2.heap.size = b := by omega
      have nw : w.heap.size < W2.heap.size := by omega
      have nw1 : ¬ w.heap.size = W2.heap.size := by omega
      have nw2 : ¬ W2.heap.size = w.heap.size := by omega
      have nbw : ¬ b = w.heap.size := fun e => by have := (HB0.out _ hbs0).2; omega
      have nbw2 : ¬ w.heap.size = b := fun e => nbw e.symm
      have HG2 := hideIt hG2
      have HT2 := hideIt hT2
      have HF2 := hideIt hF2
      have HO2 := hideIt hO2
      have HCl := hideIt hcl
      have HDs' := hideIt hds'
      unfold clV
      rw [hcl]
      generalize hok : (nextF n g1 t).c.isSome = ok
      have HOk := hideIt hok
      have HF02 : Hid (Fr (B :: bs0) w W2) := HM.out.fr.trans (HF2.out.more (fun y hy => .inl (by rcases List.mem_cons.1 hy with h | h; simp [h]; simp [HM.out.sub y (by simp [h])])))
      have HO02 : Hid (∀ p : Addr, p.block = B → p ≠ ⟨B, o + 1, none⟩ → W2.cell? p = w.cell? p ∧ W2.frozen? p = w.frozen? p) := fun p hp hq => by
        obtain ⟨x1, x2⟩ := HO2.out p hp hq
        obtain ⟨v1, v2⟩ := HM.out.oth p hp hq
        exact ⟨x1.trans v1, x2.trans v2⟩
      have HRest2 : Hid (Parts (GAt n W2 base) us l cs) := HRest.out.mono fun v g xs has hp => hp.low (fun y hy => by
        have hyb := HM.out.sub y (by simp [has y hy])
        exact HF2.out.block y (hp.in_ y hy).2 (hno y hyb (fun e => HA.out y e (has y hy)))) (by omega)
      have hbc : b ∉ cs := fun e => h4 (by simp [e])
      have hgc : g ∉ cs := fun e => h5 (by simp [e])
      clear hG2 hT2 hF2 hO2 hcl hds' hk2 hkg2 h6 h7 hok hux hr2
      cases ok
      · have hnone : (nextF n g1 t).c = none := by have := HOk.out; cases h : (nextF n g1 t).c with
          | none => rfl
          | some c => rw [h] at this; cases this
        have HNx : Hid (nextF (n + 1) (.thn l0) t0 = thnF (nextF n) l (nextF n g1 t).t) := hideIt (by rw [HM.out.nx, thnF_none hnone])
        have HFin : Hid (∀ (off' cap' : Nat) (ob : Obj), (∀ j, (h : j < us.length) → W2.cell? ⟨g, off' + j, none⟩ = some us[j]) → us.length ≤ cap' → cap' ≤ maxLen → ∃ l1 t1 bs1, l.length = l1.length ∧ ThnI n base B o b t0 w l0 bs0 ((W2.setCell ⟨b, 0, none⟩ (.slice (some ⟨g, off', none⟩) l.length cap')).alloc ob) l1 t1 bs1) := by
          intro off' cap' ob hce hc1 hc2
          have hF5 : Fr [b] W2 ((W2.setCell ⟨b, 0, none⟩ (.slice (some ⟨g, off', none⟩) l.length cap')).alloc ob) := (Fr.set W2 ⟨b, 0, none⟩ _ (by simp)).trans (Fr.alloc _ _ _)
          have d0 : ((W2.setCell ⟨b, 0, none⟩ (.slice (some ⟨g, off', none⟩) l.length cap')).alloc ob).cell? ⟨b, 0, none⟩ = some (.slice (some ⟨g, off', none⟩) l.length cap') := (World.cell?_alloc_lt _ _ _ (by simpa [World.setCell] using nb)).trans (World.cell?_setCell_same' _ _ _ (by rw [b0]; rfl))
          have d2 : ((W2.setCell ⟨b, 0, none⟩ (.slice (some ⟨g, off', none⟩) l.length cap')).alloc ob).frozen? ⟨b, 0, none⟩ = false := by
            rw [World.frozen?_alloc_old _ _ _ (by simpa [World.setCell] using nb1), frozen_setCell]; exact b2
          have hgW : g < W2.heap.size := by omega
          have hsb : ∀ y ∈ cs, y ∈ bs0 := fun y hy => HM.out.sub y (by simp [hy])
          refine ⟨l, (nextF n g1 t).t, b :: g :: cs, rfl, ?_, ?_, ?_, ?_, ?_, ?_, ?_, HNx.out⟩
          · refine ⟨b, _, g, us, cs, rfl, rfl, h2, h3, hbc, hgc, d0, d2, ⟨off', cap', by rw [hul], hc1, hc2, r4, Nat.lt_of_lt_of_le hgW hF5.size, fun j hj => ?_⟩, ?_, ?_⟩
            · exact (World.cell?_of_block (a := ⟨g, off' + j, none⟩) (hF5.block g hgW (by simp; exact Ne.symm h3))).trans (hce j hj)
            · simp at h9; omega
            · exact HRest2.out.mono fun v gg xs hxs hp => hp.fr hF5 (fun y hy e => by simp at e; exact hbc (e ▸ hxs y hy))
          · intro y hy
            rcases List.mem_cons.1 hy with h | hy
            · rw [h]; exact hbs0
            rcases List.mem_cons.1 hy with h | hy
            · rw [h]; exact hgs0
            · exact hsb y hy
          · exact HT2.out.fr hF5 (by simp [hBb]) (by simp [h2])
          · have := HU.out
            omega
          · exact HF02.out.trans (hF5.more (by simp [hbs0]))
          · intro p hp hq
            obtain ⟨x1, x2⟩ := oth_of hF5 (by omega) (by simp [hBb]) p hp
            obtain ⟨y1, y2⟩ := HO02.out p hp hq
            exact ⟨x1.trans y1, x2.trans y2⟩
          · exact (hF5.block _ nw (by simp [nbw2])).trans HR2.out
        have hgk : gk = l.length + 1 := by simpa using hg
        by_cases hcap : cap = 1
        · have hl0 : us.length = 0 := by omega
          subst hcap
          go_wp2
          go_roundg l.length
          case measure => omega
          case rel => exact HFin.out off 0 _ (fun j hj => by omega) (by omega) (by unfold maxLen; omega)
        · have hcc : ¬ cap = 0 + 1 := by omega
          go_wp2
          go_roundg l.length
          case measure => omega
          case rel => exact HFin.out (off + 1) (cap - 1) _ HR2c.out (by omega) (by omega)
      · go_wp2
        change bodyPost _ _ _ _ _ ((set3 W2 w.heap.size (.bool q) (.int .i64 kk) (.int .i64 vv)).alloc _)
        refine bodyPost_ret (results_two rfl _ _ _ _ rfl (load_set3A _ z0 z1 z2)) rfl ?_
        cases hc : (nextF n g1 t).c with
        | none => have := HOk.out; rw [hc] at this; cases this
        | some c =>
          have hcl2 := HCl.out
          rw [hc] at hcl2
          refine (told_set3 (ok := true) (bs := b :: g :: (ds' ++ cs)) (HM.out.nx.trans (thnF_some hc)) hcl2 rfl HF02.out HO02.out HT2.out ?_ ?_ HB0.out hBlt).alloc hBlt _
          · refine ⟨b, _, g, .iface T x :: us, ds' ++ cs, rfl, rfl, h2, h3, fun e => ?_, fun e => ?_, b0, b2, ⟨off, cap, rfl, r2, r3, r4, by omega, fun j hj => ?_⟩, by simpa using h9, .cons HG2.out HRest2.out (fun y hy => HA.out y (HDs'.out y hy))⟩
            · rcases List.mem_append.1 e with e | e
              · exact hbd (HDs'.out _ e)
              · exact hbc e
            · rcases List.mem_append.1 e with e | e
              · exact hgd (HDs'.out _ e)
              · exact hgc e
            · cases j with
              | zero => exact HR2z.out
              | succ j => rw [show off + (j + 1) = off + 1 + j by omega]; simpa using HR2c.out j (by simpa using hj)
          · intro y hy
            rcases List.mem_cons.1 hy with h | hy
            · rw [h]; exact hbs0
            rcases List.mem_cons.1 hy with h | hy
            · rw [h]; exact hgs0
            · rcases List.mem_append.1 hy with e | e
              · exact HM.out.sub y (by simp [HDs'.out y e])
              · exact HM.out.sub y (by simp [e])

/-- Every generator: what next gives. -/
theorem allNx : ∀ n, AllNx n
  | 0 => fun _ _ _ _ _ _ _ _ h => h.elim
  | n + 1 => by
    intro base B o t w v g bs h ht hB hu T x F hM
    have ih := allNx n
    cases g with
    | rd k =>
      obtain ⟨rfl, rfl⟩ := h
      obtain ⟨rfl, rfl, rfl⟩ := (MetOk.mk rfl (nil_rd _) (met_rd _) ent_rd).one hM
      exact read_next n base B o k t w ht
    | wr k lo hi =>
      obtain ⟨rfl, rfl, h1, h2, h3⟩ := h
      obtain ⟨rfl, rfl, rfl⟩ := (MetOk.mk rfl (nil_wr _ _ _) (met_wr _ _ _) ent_wr).one hM
      exact write_next n base B o k lo hi t w ht (by simp [wtF] at hu; omega) h1 h2 h3
    | lim g left =>
      obtain ⟨b, u, cs, rfl, rest⟩ := id h
      obtain ⟨rfl, rfl, rfl⟩ := (MetOk.mk rfl (nil_lim _) (met_lim _) ent_lim).one hM
      exact limit_next ih base B o b t w g left bs h ht hB (by simpa [wtF] using hu)
    | mix l =>
      obtain ⟨b, g, cap, us, cs, rfl, rest⟩ := id h
      obtain ⟨rfl, rfl, rfl⟩ := (MetOk.mk rfl (nil_mix _) (met_mix _) ent_mix).one hM
      exact mix_next ih base B o b t w l bs h ht hB hu
    | thn l =>
      obtain ⟨b, r, g, us, cs, rfl, rest⟩ := id h
      obtain ⟨rfl, rfl, rfl⟩ := (MetOk.mk rfl (nil_thn _) (met_thn _) ent_thn).one hM
      exact then_next ih base B o b t w l bs h ht hB hu
end Go.Proofs.YthblokfiojccmaaGreatDoor.Gn
