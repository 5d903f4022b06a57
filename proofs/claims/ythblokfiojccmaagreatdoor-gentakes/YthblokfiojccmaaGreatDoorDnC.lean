/-
  What the document's next gives: a mix, a then; and all generators.
-/
import Derived.Test.YthblokfiojccmaaGreatDoorDnB
import Derived.Maps.AppendAt
namespace Go.Proofs.YthblokfiojccmaaGreatDoor.Gn
open Go.RowKit

theorem infoPg : (Tryz.prog.info? 23).map (fun i => (i.zero, i.size, i.bytes)) = some (some (.pointer none), 1, 8) := by kernel_rfl
/-- Kids behind kids. -/
theorem run_append_kids {w : World} (base : Nat) (v : Value) (n : Nat) (xs : List Value) (h : w.ownsRow base 23 1 v n xs) (g off m c : Nat) (ys : List Value) (hl : ys.length = m) (hc : ∀ j, (hj : j < ys.length) → w.cell? ⟨g, off + j, none⟩ = some ys[j]) (h1 : ∀ y ∈ ys, y.oneCell' = true) (hn : n + m ≤ 5000) (hb : base ≤ w.heap.size) (ty : TypeId) :
    ∃ v' w', (Builtin.append_ #[74, 74] ty #[v, .slice (some ⟨g, off, none⟩) m c]).run Tryz.prog w = .ok v' w' ∧ w'.ownsRow base 23 1 v' (n + m) (xs ++ ys) ∧ w.grownBy w' v.ownBlock ∧ (v'.ownBlock = v.ownBlock ∨ v'.ownBlock = some w.heap.size) := by
  obtain ⟨i0, hi, hz0, hz1, hz2⟩ := info_parts' infoPg
  obtain ⟨v', w', k1, k2, k3, _, k5⟩ := run_append_own_at (P := Tryz.prog) w base 74 ty 23 i0 _ 1 8 Tryz.underlying74 hi hz0 hz1 hz2 rfl (by decide) v n xs h ⟨g, off, none⟩ m c ys (by rw [hl, Nat.mul_one]) (fun j u hj => by
    obtain ⟨hlt, e⟩ := List.getElem?_eq_some_iff.1 hj
    have := hc j hlt
    rw [e] at this
    by_cases hj0 : j = 0
    · subst hj0; simpa [Addr.add] using this
    · simpa [Addr.add, hj0] using this) h1 (by unfold maxLen; omega) (by omega) hb
  exact ⟨v', w', k1, k2, k3, k5⟩

theorem Fr.app2 {X Y : List Nat} {a b c : World} (h : Fr X a b) (k : Fr Y b c) (hY : ∀ y ∈ Y, y ∈ X ∨ a.heap.size ≤ y) : Fr X a c :=
  ⟨k.os.trans h.os, k.tape.trans h.tape, k.output.trans h.output, Nat.le_trans h.size k.size, fun i hi hn => (k.block i (Nat.lt_of_lt_of_le hi h.size) (fun e => by rcases hY i e with e | e; exact hn e; omega)).trans (h.block i hi hn)⟩
/-- A new block more. -/
theorem DnTold.alloc {n base B : Nat} {t : Tp} {w W : World} {v : Value} {g : Gt} {bs : List Nat} {e : Ending} (h : DnTold n base B t w v g bs e W) (ob : Obj) : DnTold n base B t w v g bs e (W.alloc ob) := by
  obtain ⟨h1, h2, ⟨ds, h3, h4⟩, h5⟩ := h
  have hf := Fr.alloc [] W ob
  exact ⟨h1, h2.fr hf (by simp) (by simp), ⟨ds, h3.fr hf (by simp), h4⟩, h5.trans (hf.more (by simp))⟩
theorem load_set3DA {w : World} {G : Nat} {x y z a b c : Value} (o : Obj) (h0 : w.cell? ⟨G, 0, none⟩ = some x) (h1 : w.cell? ⟨G, 1, none⟩ = some y) (h2 : w.cell? ⟨G, 2, none⟩ = some z) : (loadVar 47 ⟨G, 0, none⟩).run Tryz.prog ((set3 w G a b c).alloc o) = .ok (.agg #[a, b, c]) ((set3 w G a b c).alloc o) := by
  have hG : G < (set3 w G a b c).heap.size := by have := World.block_lt_of_cell? w _ h0; simpa [set3, World.setCell] using this
  obtain ⟨k0, k1, k2⟩ := cell_set3 (a := a) (b := b) (c := c) h0 h1 h2
  exact loadDl ((World.cell?_alloc_lt _ _ _ hG).trans k0) ((World.cell?_alloc_lt _ _ _ hG).trans k1) ((World.cell?_alloc_lt _ _ _ hG).trans k2)
theorem Fr.ofBelow {w W : World} (h : Below w.heap.size w W) : Fr [] w W := ⟨h.os, h.tape, h.output, h.size, fun k hk _ => h.block k hk⟩
theorem Below.grow {n : Nat} {w W V : World} {row : Option Nat} (h : Below n w W) (hg : W.grownBy V row) (hn : n ≤ W.heap.size) (hr : ∀ x, row = some x → n ≤ x) : Below n w V :=
  ⟨hg.os.trans h.os, hg.tape.trans h.tape, hg.output.trans h.output, Nat.le_trans h.size hg.size, fun k hk => (hg.block k (by omega) (fun e => by have := hr k e.symm; omega)).trans (h.block k hk)⟩
theorem own_some {w : World} {base : Nat} {e : TypeId} {z n x : Nat} {v : Value} {xs : List Value} (h : w.ownsRow base e z v n xs) (hx : v.ownBlock = some x) : (∃ cap, v = .slice (some ⟨x, 0, none⟩) n cap) ∧ base ≤ x ∧ x < w.heap.size := by
  rcases h.2 with ⟨e, _⟩ | ⟨g, cap, cur, e, h1, h2, _⟩
  · rw [e] at hx; cases hx
  · rw [e] at hx
    have e2 : some g = some x := hx
    cases e2
    exact ⟨⟨cap, e⟩, h1, (Array.getElem?_eq_some_iff.1 h2).1⟩
theorem ownsRow_low' {w : World} {base base' : Nat} {e : TypeId} {z n : Nat} {v : Value} {xs : List Value} (h : w.ownsRow base e z v n xs) (hb : base' ≤ base) : w.ownsRow base' e z v n xs :=
  ⟨h.1, h.2.imp id fun ⟨g, cap, cur, h1, h2, h3⟩ => ⟨g, cap, cur, h1, Nat.le_trans hb h2, h3⟩⟩
/-- One of them: its own blocks; how the others stay when it is another one, whose blocks may be new. -/
theorem Parts.at2 {P : Value → Gt → List Nat → Prop} {vs : List Value} {gs : List Gt} {cs : List Nat} (h : Parts P vs gs cs) : ∀ i, (hi : i < gs.length) → ∃ v bs, vs[i]? = some v ∧ P v gs[i] bs ∧ (∀ b ∈ bs, b ∈ cs) ∧
    (∀ (Q : Value → Gt → List Nat → Prop) v' g' bs', (∀ b ∈ bs', b ∈ bs ∨ b ∉ cs) → Q v' g' bs' → (∀ v g ds, (∀ b ∈ ds, b ∈ cs ∧ b ∉ bs) → P v g ds → Q v g ds) → ∃ cs', Parts Q (vs.set i v') (gs.set i g') cs' ∧ ∀ b ∈ cs', b ∈ cs ∨ b ∈ bs') ∧
    (∀ (Q : Value → Gt → List Nat → Prop), (∀ v g ds, (∀ b ∈ ds, b ∈ cs ∧ b ∉ bs) → P v g ds → Q v g ds) → ∃ cs', Parts Q (vs.eraseIdx i) (gs.eraseIdx i) cs' ∧ ∀ b ∈ cs', b ∈ cs) := by
  induction h with
  | nil => intro i hi; cases hi
  | @cons v g bs vs gs cs h hs ha ih =>
    intro i hi
    have hap : ∀ b ∈ cs, b ∉ bs := fun b hb hb' => ha b hb' hb
    cases i with
    | zero =>
      refine ⟨v, bs, rfl, h, fun b hb => List.mem_append_left _ hb, fun Q v' g' bs' hbs hQ hP => ?_, fun Q hP => ?_⟩
      · refine ⟨bs' ++ cs, .cons hQ (hs.mono fun v g ds has hp => hP v g ds (fun b hb => ⟨List.mem_append_right _ (has b hb), hap b (has b hb)⟩) hp) (fun b hb => ?_), fun b hb => ?_⟩
        · rcases hbs b hb with e | e
          · exact ha b e
          · exact fun e2 => e (List.mem_append_right _ e2)
        · rcases List.mem_append.1 hb with hb | hb
          · exact .inr hb
          · exact .inl (List.mem_append_right _ hb)
      · exact ⟨cs, hs.mono fun v g ds has hp => hP v g ds (fun b hb => ⟨List.mem_append_right _ (has b hb), hap b (has b hb)⟩) hp, fun b hb => List.mem_append_right _ hb⟩
    | succ i =>
      obtain ⟨u, ds, hu, hp, hin, hset, her⟩ := ih i (by simpa using hi)
      have hno : ∀ b ∈ bs, b ∉ ds := fun b hb hb' => ha b hb (hin b hb')
      refine ⟨u, ds, by simpa using hu, by simpa using hp, fun b hb => List.mem_append_right _ (hin b hb), fun Q v' g' bs' hbs hQ hP => ?_, fun Q hP => ?_⟩
      · obtain ⟨cs', h1, h2⟩ := hset Q v' g' bs' (fun b hb => (hbs b hb).imp id fun e e2 => e (List.mem_append_right _ e2)) hQ (fun v g ds' has hp => hP v g ds' (fun b hb => ⟨List.mem_append_right _ (has b hb).1, (has b hb).2⟩) hp)
        refine ⟨bs ++ cs', .cons (hP v g bs (fun b hb => ⟨List.mem_append_left _ hb, hno b hb⟩) h) h1 (fun b hb hb' => ?_), fun b hb => ?_⟩
        · rcases h2 b hb' with e | e
          · exact ha b hb e
          · rcases hbs b e with e | e
            · exact ha b hb (hin b e)
            · exact e (List.mem_append_left _ hb)
        · rcases List.mem_append.1 hb with hb | hb
          · exact .inl (List.mem_append_left _ hb)
          · exact (h2 b hb).imp (List.mem_append_right _) id
      · obtain ⟨cs', h1, h2⟩ := her Q (fun v g ds' has hp => hP v g ds' (fun b hb => ⟨List.mem_append_right _ (has b hb).1, (has b hb).2⟩) hp)
        refine ⟨bs ++ cs', .cons (hP v g bs (fun b hb => ⟨List.mem_append_left _ hb, hno b hb⟩) h) h1 (fun b hb hb' => ha b hb (h2 b hb')), fun b hb => ?_⟩
        rcases List.mem_append.1 hb with hb | hb
        · exact List.mem_append_left _ hb
        · exact List.mem_append_right _ (h2 b hb)

/-- Where the loop stands. -/
structure DkI (mx : Bool) (nm : ByteArray) (n base B b : Nat) (t0 : Tp) (w : World) (l0 : List Gt) (bs0 : List Nat) (wx : World) (l : List Gt) (t : Tp) (bs : List Nat) : Prop where
  gen : KidsAt (DgAt n wx base) wx base nm (.pointer (some ⟨b, 0, none⟩)) l bs
  sub : ∀ x ∈ bs, x ∈ bs0 ∨ w.heap.size < x
  tp : TpAt wx base B 0 t
  use : t.u + kidW mx n l ≤ 1000000000
  fr : Fr (B :: bs0) w wx
  res : wx.heap[w.heap.size]? = some (.cells #[.bool false, .int .i64 0, .int .i64 0] 47)
  nx : nextF (n + 1) (kidG mx l0) t0 = nextF (n + 1) (kidG mx l) t
theorem DkI.gen_lt {mx : Bool} {nm : ByteArray} {n base B b : Nat} {t0 : Tp} {w : World} {l0 : List Gt} {bs0 : List Nat} {wx : World} {l : List Gt} {t : Tp} {bs : List Nat} (h : DkI mx nm n base B b t0 w l0 bs0 wx l t bs) : ∀ y ∈ bs, y < wx.heap.size := fun y hy => (KidsAt.in_ h.gen (fun _ _ _ hp => hp.in_) y hy).2

set_option maxHeartbeats 8000000 in
set_option maxRecDepth 100000 in
theorem dmix_next {n : Nat} (ih : AllDn n) (base B : Nat) (t0 : Tp) (w : World) (v : Value) (l0 : List Gt) (bs0 : List Nat) (h : DgAt (n + 1) w base v (.mix l0) bs0) (ht : TpAt w base B 0 t0) (hB : B ∉ bs0) (hu : t0.u + kidW true n l0 ≤ 1000000000) :
    Calls Tryz.prog 8 #[v, .pointer (some ⟨B, 0, none⟩)] w (DnTold (n + 1) base B t0 w v (.mix l0) bs0) := by
  have hfr : ∀ X, Fr X w (w.alloc (.cells #[.bool false, .int .i64 0, .int .i64 0] 47)) := fun X => Fr.alloc _ _ _
  obtain ⟨b, hv, hbm⟩ := h.ptr
  subst hv
  have hb0 : ∀ x ∈ bs0, base ≤ x ∧ x < w.heap.size := fun x hx => h.in_ x hx
  have hbw := (hb0 b hbm).2
  have HI : Hid (DkI true ⟨#[109, 105, 120]⟩ n base B b t0 w l0 bs0 (w.alloc (.cells #[.bool false, .int .i64 0, .int .i64 0] 47)) l0 t0 bs0) :=
    ⟨DgAt.fr (g := .mix l0) h (hfr []) (by simp), fun _ hx => .inl hx, ht.fr (hfr []) (by simp) (by simp), hu, hfr _, heap_new _ _, rfl⟩
  have hBlt := ht.lt
  have hlo := ht.lo
  have HB0 := hideIt hb0
  have HBn := hideIt hB
  obtain ⟨b', g0, cap0, us0, cs0, e1, hbs0, _, _, _, _, c00, _⟩ := h
  cases e1
  clear ht hb0 hfr hB hu
  go_enter Tryz.func8, Tryz.ntmps8
  go_wp2
  clear c00
  go_loopg [6, 7, 8] l0.length (fun g _ _ _ wx => ∃ l t bs, g = l.length ∧ DkI true ⟨#[109, 105, 120]⟩ n base B b t0 w l0 bs0 wx l t bs)
  case atStart => exact ⟨l0, t0, bs0, rfl, HI.out⟩
  case round =>
    obtain ⟨l, t, bs, hg, hI⟩ := hrel
    have HM := hideIt hI
    obtain ⟨⟨b', g, cap, us, cs, e1, rfl, h2, h3, h4, h5, h6, h7, h8, h9, h10, h11⟩, hsub, htp, huse, hfr, hres, hnx⟩ := hI
    cases e1
    have hblt : b < wr.heap.size := World.block_lt_of_cell? wr _ h6
    have hzz := hfr.size
    have hwr : w.heap.size < wr.heap.size := (Array.getElem?_eq_some_iff.1 hres).1
    have hbG : b ≠ w.heap.size := by omega
    have hgG : g ≠ w.heap.size := fun e => by
      rcases hsub g (by simp) with x | x
      · have := (HB0.out g x).2; omega
      · omega
    have hcG : w.heap.size ∉ cs := fun e => by
      rcases hsub _ (List.mem_cons_of_mem _ (List.mem_cons_of_mem _ e)) with x | x
      · have := (HB0.out _ x).2; omega
      · omega
    have hBbs : B ∉ b :: g :: cs := fun e => by
      rcases hsub B e with x | x
      · exact HBn.out x
      · omega
    cases l with
    | nil =>
      obtain ⟨z0, z1, z2⟩ := blk3 hres
      have f0 := frozen_of_row wr w.heap.size 0 _ 47 hres
      have f1 := frozen_of_row wr w.heap.size 1 _ 47 hres
      have f2 := frozen_of_row wr w.heap.size 2 _ 47 hres
      clear h9 h11 hfr hres hnx huse htp hsub
      simp only [List.length_nil] at h7
      go_wp2
      change bodyPost _ _ _ _ _ (set3 wr w.heap.size (.bool false) (.int .i64 0) (.int .i64 0))
      refine bodyPost_ret (results_two rfl _ _ _ _ rfl (load_set3D z0 z1 z2)) rfl ?_
      exact dtold_set3 (ok := false) (bs := b :: g :: cs) HM.out.nx rfl rfl HM.out.fr HM.out.tp HM.out.gen (fun x hx => (HM.out.sub x hx).imp id Nat.le_of_lt) (by simp [Ne.symm hbG, Ne.symm hgG, hcG]) (Nat.le_refl _) hBlt
    | cons g1 l =>
      generalize hL : g1 :: l = L at *
      have hlen : 0 < L.length := by rw [← hL]; simp
      clear hL l g1
      have hgt : (0 : Int) < (L.length : Int) := by omega
      have hul : us.length = L.length := h11.len
      obtain ⟨i, hi⟩ : ∃ i, kidI true L t = i := ⟨_, rfl⟩
      have hil : i < L.length := hi ▸ kidI_lt true t hlen
      obtain ⟨u, ds, hu1, hP, hds, hset, her⟩ := h11.at2 i hil
      obtain ⟨ub, hub, hubd⟩ := hP.ptr
      subst hub
      have hgd : L.getD (kidI true L t) (.rd 0) = L[i] := by rw [hi, List.getD_eq_getElem?_getD, List.getElem?_eq_getElem hil]; rfl
      have HU := hideIt (kidT_u true n t hlen)
      rw [hgd, hi] at HU
      have hbi : t.below L.length = (i : Int) := by have h1 := Tp.below_lt (t := t) hgt; have h2 : (t.below L.length).toNat = i := hi; omega
      have HBL := hideIt (dBelow_any base B 0 (L.length : Int) t wr htp (by omega) (by omega))
      rw [hbi] at HBL
      have HKs := hideIt (fun c (h : (nextF n L[i] (kidT true L t)).c = some c) => kid_some true n t hlen (c := c) (by rw [hgd]; exact h))
      have HKn := hideIt (fun (h : (nextF n L[i] (kidT true L t)).c = none) => kid_none true n t hlen (by rw [hgd]; exact h))
      rw [hgd, hi] at HKs HKn
      have HP := hideIt hP
      have HSet := hideIt hset
      have HEr := hideIt her
      have HDs := hideIt hds
      have HRow := hideIt h9
      have hux : us[i]? = some (.pointer (some ⟨ub, 0, none⟩)) := hu1
      have HOne := hideIt (h11.allV (q := fun u => u.oneCell' = true) (fun v g bs h => by obtain ⟨b, rfl, _⟩ := h.ptr; rfl))
      have hBd : B ∉ ds := fun e => hBbs (by simp [hds B e])
      have hBb : B ≠ b := fun e => hBbs (by simp [e])
      have hBg : B ≠ g := fun e => hBbs (by simp [e])
      have hglt : g < wr.heap.size := by
        rcases h9.2 with ⟨e, _⟩ | ⟨g', cap', cur, e, e1, e2, _⟩
        · cases e
        · cases e
          exact (Array.getElem?_eq_some_iff.1 e2).1
      have hbg : base ≤ g := by
        rcases h9.2 with ⟨e, _⟩ | ⟨g', cap', cur, e, e1, e2, _⟩
        · cases e
        · cases e
          exact e1
      have hLc : L.length ≤ cap ∧ cap ≤ maxLen := by
        rcases h9.2 with ⟨e, _⟩ | ⟨g', cap', cur, e, e1, e2, e3, e4, _⟩
        · cases e
        · cases e
          exact ⟨e3, e4⟩
      have hci := (h9.cellAt i (by omega)).trans hux
      clear hgd hP hset her hds h9 h11 hfr hres hnx htp hsub hu1
      have HT1 : Hid (TpAt wr base B 0 t) := hideIt HM.out.tp
      go_wp2_with fail
      refine HBL.out.mono ?_
      rintro y W1 ⟨rfl, n1, rfl⟩
      have hT1 := HM.out.tp.turn (L.length : Int) n1
      have hF1 : Fr [B] wr (tpTurn (wr.drewN n1) B 0 t (L.length : Int)) := Fr.of_grown (grown_turn wr B 0 t _ n1) (fun b e => by cases e; simp)
      have hkb := hF1.block b hblt (by simpa using Ne.symm hBb)
      have hkg := hF1.block g hglt (by simpa using Ne.symm hBg)
      have hkG := hF1.block w.heap.size hwr (by simp; omega)
      have a0 := (World.cell?_of_block (a := ⟨b, 0, none⟩) hkb).trans h6
      have a4 := (World.cell?_of_block (a := ⟨b, 4, none⟩) hkb).trans h7
      have ai := (World.cell?_of_block (a := ⟨g, i, none⟩) hkg).trans hci
      have HFz := hideIt ((World.frozen?_of_block (a := ⟨b, 4, none⟩) hkb).trans h8)
      have HG1 := hideIt (HP.out.fr hF1 (fun c hc e => by simp at e; exact hBd (e ▸ hc)))
      have HRow1 := hideIt (ownsRow_blk HRow.out (fun y hy => by have hy' : some g = some y := hy; cases hy'; exact hkg))
      have HTp1 := hideIt hT1
      have HF1 := hideIt hF1
      have HR1 := hideIt (hkG.trans HM.out.res)
      have hs1 : wr.heap.size ≤ (tpTurn (wr.drewN n1) B 0 t (L.length : Int)).heap.size := hF1.size
      clear hT1 hF1 hkb hkg hkG h6 h7 h8 hci
      generalize tpTurn (wr.drewN n1) B 0 t (L.length : Int) = W1 at *
      have HTp2 : Hid (TpAt W1 base B 0 (kidT true L t)) := HTp1
      generalize kidT true L t = t1 at *
      clear HTp1
      have hbon : t1.u + wtF n L[i] ≤ 1000000000 := by have := HU.out; omega
      go_wp2_with fail
      refine (ih base B t1 W1 _ L[i] ds HG1.out HTp2.out hBd hbon).mono ?_
      rintro y W2 ⟨rfl, hT2, ⟨ds', hG2, hds'⟩, hF2⟩
      obtain ⟨q, kk, vv, hcl⟩ := clV_form (nextF n L[i] t1).c
      have hno : ∀ y, y ∈ b :: g :: cs → y ∉ ds → y ∉ B :: ds := fun y hy hn e => by
        rcases List.mem_cons.1 e with e | e
        · exact hBbs (e ▸ hy)
        · exact hn e
      have hbd : b ∉ ds := fun e => h4 (HDs.out b e)
      have hgd : g ∉ ds := fun e => h5 (HDs.out g e)
      have hGd : w.heap.size ∉ B :: ds := fun e => by
        rcases List.mem_cons.1 e with e | e
        · omega
        · exact hcG (HDs.out _ e)
      have hk2 : W2.heap[b]? = W1.heap[b]? := hF2.block b (by omega) (hno b (by simp) hbd)
      have hkg2 : W2.heap[g]? = W1.heap[g]? := hF2.block g (by omega) (hno g (by simp) hgd)
      have b0 := (World.cell?_of_block (a := ⟨b, 0, none⟩) hk2).trans a0
      have b4 := (World.cell?_of_block (a := ⟨b, 4, none⟩) hk2).trans a4
      have bf := (World.frozen?_of_block (a := ⟨b, 4, none⟩) hk2).trans HFz.out
      have HRow2 := hideIt (ownsRow_blk HRow1.out (fun y hy => by have hy' : some g = some y := hy; cases hy'; exact hkg2))
      have hr2 := (hF2.block w.heap.size (by omega) hGd).trans HR1.out
      have hs2 := hF2.size
      have nb : b < W2.heap.size := by omega
      have ng : g < W2.heap.size := by omega
      have nG : w.heap.size < W2.heap.size := by omega
      have nb1 : ¬ b = W2.heap.size := by omega
      have nb2 : ¬ W2.heap.size = b := by omega
      have nw1 : ¬ w.heap.size = W2.heap.size := by omega
      have nw2 : ¬ W2.heap.size = w.heap.size := by omega
      have HG2 := hideIt hG2
      have HT2 := hideIt hT2
      have HCl := hideIt hcl
      have HDs' := hideIt hds'
      have HR2 := hideIt hr2
      have HF12 : Hid (Fr (B :: ds) wr W2) := (HF1.out.more (by simp)).trans hF2
      have HF02 : Hid (Fr (B :: bs0) w W2) := HM.out.fr.app2 HF12.out (fun y hy => by
        rcases List.mem_cons.1 hy with e | e
        · exact .inl (by simp [e])
        · rcases HM.out.sub y (by simp [HDs.out y e]) with x | x
          · exact .inl (by simp [x])
          · exact .inr (Nat.le_of_lt x))
      have HLow : Hid (∀ W3, (∀ y, y < W2.heap.size → y ≠ b → y ∉ B :: ds → W3.heap[y]? = W2.heap[y]?) → ∀ v g xs, (∀ y ∈ xs, y ∈ cs ∧ y ∉ ds) → DgAt n wr base v g xs → DgAt n W3 base v g xs) := hideIt fun W3 hW3 v g xs has hp => by
        refine hp.low (fun y hy => ?_)
        obtain ⟨q1, q2⟩ := has y hy
        have hyn := hno y (by simp [q1]) q2
        have hlt := (hp.in_ y hy).2
        exact (hW3 y (by omega) (fun e => h4 (e ▸ q1)) hyn).trans (HF12.out.block y hlt hyn)
      clear hG2 hT2 hF2 hcl hds' hk2 hkg2 hr2 HTp2
      unfold clV
      rw [HCl.out]
      generalize hok : (nextF n L[i] t1).c.isSome = ok
      have HOk := hideIt hok
      clear hok
      cases ok
      · have hnone : (nextF n L[i] t1).c = none := by have := HOk.out; cases h : (nextF n L[i] t1).c with
          | none => rfl
          | some c => rw [h] at this; cases this
        have HNx := hideIt (HM.out.nx.trans (HKn.out hnone))
        have ci1 : (0 : Int) ≤ (i : Int) := by omega
        have ci2 : (i : Int) ≤ (cap : Int) := by omega
        have hwi : IntKind.i64.wrap ((i : Int) + 1) = (i : Int) + 1 := by rw [IntKind.wrap_i64]; omega
        have ci3 : (i : Int) + 1 ≤ (L.length : Int) := by omega
        have ci4 : (L.length : Int) ≤ (cap : Int) := by omega
        have ci5 : (0 : Int) ≤ (i : Int) + 1 := by omega
        obtain ⟨od, hod, hod2⟩ : ∃ od, (if cap = (i + 1) then (some ⟨g, 0, none⟩ : Option Addr) else some ⟨g, (i + 1), none⟩) = some ⟨g, od, none⟩ ∧ (od = (i + 1) ∨ L.length - (i + 1) = 0) := by
          by_cases e : cap = (i + 1)
          · exact ⟨0, if_pos e, .inr (by omega)⟩
          · exact ⟨(i + 1), if_neg e, .inl rfl⟩
        have HOd := hideIt hod2
        clear hod2
        go_upto_region 18 with fail
        have c4 := (World.cell?_alloc_lt W2 (.cells #[.bool q, .int .i64 kk, .int .i64 vv] 47) ⟨b, 4, none⟩ nb).trans b4
        have hF3 : Fr [] W2 (W2.alloc (.cells #[.bool q, .int .i64 kk, .int .i64 vv] 47)) := Fr.alloc _ _ _
        have hs3 := hF3.size
        have HF3 := hideIt hF3
        clear hF3
        generalize W2.alloc (.cells #[.bool q, .int .i64 kk, .int .i64 vv] 47) = W3 at *
        have HC4 := hideIt (fun Z (hZ : Below W3.heap.size W3 Z) => (World.cell?_of_block (a := ⟨b, 4, none⟩) (hZ.block b (by omega))).trans c4)
        refine wp_region_L (B := [19]) (S := fun _ => True) (T := fun Z => Below W3.heap.size W3 Z) (by kernel_rfl) ⟨trivial, (Below.refl _ _).drew⟩ (fun hHeld => ?_)
        refine wpAnyL_takeS (i := 0) (v := ?_) rfl (by kernel_rfl) (by kernel_rfl) (by kernel_rfl) (by kernel_rfl) (fun _ _ _ h => h) (Or.inl ⟨by rfl, ?_⟩) (by assumption) ?_
        rotate_left 1
        · intro wz sb
          go_simp
          all_goals with_reducible rfl
        simp only [Act.put, List.setIfInBounds_toArray, List.set_cons_zero, List.set_cons_succ, List.getElem_toArray, List.getElem_cons_zero]
        refine wpAnyL_takeS (i := 2) (v := ?_) rfl (by kernel_rfl) (by kernel_rfl) (by kernel_rfl) (by kernel_rfl) (fun _ _ _ h => h) (Or.inl ⟨by rfl, ?_⟩) (by assumption) ?_
        rotate_left 1
        · intro wz sb
          go_simp
          all_goals with_reducible rfl
        simp only [Act.put, List.setIfInBounds_toArray, List.set_cons_zero, List.set_cons_succ, List.getElem_toArray, List.getElem_cons_zero, List.getElem_cons_succ]
        refine wpAnyL_takeS (i := 3) (v := ?_) rfl (by kernel_rfl) (by kernel_rfl) (by kernel_rfl) (by kernel_rfl) (fun _ _ _ h => h) (Or.inl ⟨by rfl, ?_⟩) (by assumption) ?_
        rotate_left 1
        · intro wz sb
          go_simp
          all_goals with_reducible rfl
        simp only [Act.put, List.setIfInBounds_toArray, List.set_cons_zero, List.set_cons_succ, List.getElem_toArray, List.getElem_cons_zero, List.getElem_cons_succ]
        refine wpAnyL_takeS (i := 4) (v := ?_) rfl (by kernel_rfl) (by kernel_rfl) (by kernel_rfl) (by kernel_rfl) (fun _ _ _ h => h) (Or.inl ⟨by rfl, ?_⟩) (by assumption) ?_
        rotate_left 1
        · intro wz sb
          go_simp
          all_goals with_reducible rfl
        simp only [Act.put, List.setIfInBounds_toArray, List.set_cons_zero, List.set_cons_succ, List.getElem_toArray, List.getElem_cons_zero, List.getElem_cons_succ]
        refine wpAnyL_take [7, 8, 16, 19] (i := 5) (v := ?_) rfl (by kernel_rfl) (by kernel_rfl) (by kernel_rfl) (by kernel_rfl) (fun _ _ _ h => h) (Or.inl ⟨by rfl, ?_⟩) (by assumption) ?_
        rotate_left 1
        · intro wz sb
          have y4 := HC4.out wz sb.2
          go_simp
          all_goals with_reducible rfl
        simp only [Act.put, List.setIfInBounds_toArray, List.set_cons_zero, List.set_cons_succ, List.getElem_toArray, List.getElem_cons_zero, List.getElem_cons_succ]
        refine wpAnyL_takeS (i := 6) (v := ?_) rfl (by kernel_rfl) (by kernel_rfl) (by kernel_rfl) (by kernel_rfl) (fun _ _ _ h => h) (Or.inl ⟨by rfl, ?_⟩) (by assumption) ?_
        rotate_left 1
        · intro wz sb
          go_simp
          all_goals with_reducible rfl
        simp only [Act.put, List.setIfInBounds_toArray, List.set_cons_zero, List.set_cons_succ, List.getElem_toArray, List.getElem_cons_zero, List.getElem_cons_succ]
        refine wpAnyL_takeS (i := 7) (v := ?_) rfl (by kernel_rfl) (by kernel_rfl) (by kernel_rfl) (by kernel_rfl) (fun _ _ _ h => h) (Or.inl ⟨by rfl, ?_⟩) (by assumption) ?_
        rotate_left 1
        · intro wz sb
          go_simp
          all_goals with_reducible rfl
        simp only [Act.put, List.setIfInBounds_toArray, List.set_cons_zero, List.set_cons_succ, List.getElem_toArray, List.getElem_cons_zero, List.getElem_cons_succ]
        refine wpAnyL_takeS (i := 9) (v := ?_) rfl (by kernel_rfl) (by kernel_rfl) (by kernel_rfl) (by kernel_rfl) (fun _ _ _ h => h) (Or.inl ⟨by rfl, ?_⟩) (by assumption) ?_
        rotate_left 1
        · intro wz sb
          go_simp
          all_goals with_reducible rfl
        simp only [Act.put, List.setIfInBounds_toArray, List.set_cons_zero, List.set_cons_succ, List.getElem_toArray, List.getElem_cons_zero, List.getElem_cons_succ]
        refine wpAnyL_takeS (i := 10) (v := ?_) rfl (by kernel_rfl) (by kernel_rfl) (by kernel_rfl) (by kernel_rfl) (fun _ _ _ h => h) (Or.inl ⟨by rfl, ?_⟩) (by assumption) ?_
        rotate_left 1
        · intro wz sb
          go_simp
          all_goals with_reducible rfl
        simp only [Act.put, List.setIfInBounds_toArray, List.set_cons_zero, List.set_cons_succ, List.getElem_toArray, List.getElem_cons_zero, List.getElem_cons_succ]
        refine wpAnyL_takeS (i := 11) (v := ?_) rfl (by kernel_rfl) (by kernel_rfl) (by kernel_rfl) (by kernel_rfl) (fun _ _ _ h => h) (Or.inl ⟨by rfl, ?_⟩) (by assumption) ?_
        rotate_left 1
        · intro wz sb
          go_simp
          all_goals with_reducible rfl
        simp only [Act.put, List.setIfInBounds_toArray, List.set_cons_zero, List.set_cons_succ, List.getElem_toArray, List.getElem_cons_zero, List.getElem_cons_succ]
        refine wpAnyL_take [15, 16, 19] (i := 12) (v := ?_) rfl (by kernel_rfl) (by kernel_rfl) (by kernel_rfl) (by kernel_rfl) (fun _ _ _ h => h) (Or.inl ⟨by rfl, ?_⟩) (by assumption) ?_
        rotate_left 1
        · intro wz sb
          have y4 := HC4.out wz sb.2
          go_simp
          all_goals with_reducible rfl
        simp only [Act.put, List.setIfInBounds_toArray, List.set_cons_zero, List.set_cons_succ, List.getElem_toArray, List.getElem_cons_zero, List.getElem_cons_succ]
        refine wpAnyL_takeS (i := 13) (v := ?_) rfl (by kernel_rfl) (by kernel_rfl) (by kernel_rfl) (by kernel_rfl) (fun _ _ _ h => h) (Or.inl ⟨by rfl, ?_⟩) (by assumption) ?_
        rotate_left 1
        · intro wz sb
          go_simp
          all_goals with_reducible rfl
        simp only [Act.put, List.setIfInBounds_toArray, List.set_cons_zero, List.set_cons_succ, List.getElem_toArray, List.getElem_cons_zero, List.getElem_cons_succ]
        refine wpAnyL_takeS (i := 14) (v := ?_) rfl (by kernel_rfl) (by kernel_rfl) (by kernel_rfl) (by kernel_rfl) (fun _ _ _ h => h) (Or.inl ⟨by rfl, ?_⟩) (by assumption) ?_
        rotate_left 1
        · intro wz sb
          go_simp
          all_goals with_reducible rfl
        simp only [Act.put, List.setIfInBounds_toArray, List.set_cons_zero, List.set_cons_succ, List.getElem_toArray, List.getElem_cons_zero, List.getElem_cons_succ]
        refine wpAnyL_takeS (i := 15) (v := ?_) rfl (by kernel_rfl) (by kernel_rfl) (by kernel_rfl) (by kernel_rfl) (fun _ _ _ h => h) (Or.inl ⟨by rfl, ?_⟩) (by assumption) ?_
        rotate_left 1
        · intro wz sb
          go_simp
          all_goals with_reducible rfl
        simp only [Act.put, List.setIfInBounds_toArray, List.set_cons_zero, List.set_cons_succ, List.getElem_toArray, List.getElem_cons_zero, List.getElem_cons_succ]
        generalize W3.drew = Y0 at hHeld ⊢
        refine wpAnyL_ready (rs := [1]) (by kernel_rfl) (by simp) (AllReadyL.cons rfl (fun Q hQ => ?_) AllReadyL.nil)
        go_simp
        have hb1 : Below W3.heap.size W3 (Y0.alloc (.cells #[] 23)) := hHeld.2.alloc hHeld.2.size _
        have ho0 : (Y0.alloc (.cells #[] 23)).ownsRow W3.heap.size 23 1 (.slice (some ⟨Y0.heap.size, 0, none⟩) 0 0) 0 [] := owns_of_cells hHeld.2.size (heap_new _ _) (Nat.le_refl _) (Nat.zero_le _) rfl rfl (fun j hj => absurd hj (by simp))
        have hY0 := hHeld.2.size
        refine hQ.out _ _ ⟨trivial, hb1⟩ (fun hHeld2 => ?_)
        clear hQ Q hb1
        generalize Y0.alloc (.cells #[] 23) = Y1 at *
        generalize Y0.heap.size = G0 at *
        have hug : ∀ (Y : World), Below W3.heap.size W3 Y → ∀ j, (hj : j < us.length) → Y.cell? ⟨g, j, none⟩ = some us[j] := fun Y hY j hj => by
          refine (World.cell?_of_block (a := ⟨g, j, none⟩) ((hY.block g (by omega)).trans (HF3.out.block g ng (by simp)))).trans ((HRow2.out.cellAt j (by omega)).trans ?_)
          exact List.getElem?_eq_getElem hj
        obtain ⟨v1, Y2, hr1, ho1, hg1, hob1⟩ := run_append_kids W3.heap.size _ 0 [] ho0 g 0 i cap (us.take i) (by rw [List.length_take]; omega) (fun j hj => by
          have hj2 : j < us.length := by rw [List.length_take] at hj; omega
          rw [List.getElem_take, Nat.zero_add]; exact hug _ hHeld2.2 j hj2) (fun y hy => HOne.out y (List.mem_of_mem_take hy)) (by omega) hHeld2.2.size 74
        have hbb1 : ∃ x, v1.ownBlock = some x := by
          rcases hob1 with e | e
          · exact ⟨_, e.trans rfl⟩
          · exact ⟨_, e⟩
        obtain ⟨x1, hx1⟩ := hbb1
        obtain ⟨⟨cap1, rfl⟩, hx1b, hx1l⟩ := own_some ho1 hx1
        have hB2 : Below W3.heap.size W3 Y2 := Below.grow hHeld2.2 hg1 hHeld2.2.size (fun x e => by cases e; exact hY0)
        rw [Nat.zero_add] at ho1 hr1
        rw [List.nil_append] at ho1
        refine wpAnyL_ready (rs := [8]) (by kernel_rfl) (by simp) (AllReadyL.cons rfl (fun Q hQ => ?_) AllReadyL.nil)
        refine step_append_run (by rfl) _ _ 74 rfl _ _ _ Y2 rfl rfl hr1 ?_
        refine hQ.out _ _ ⟨trivial, hB2⟩ (fun hHeld3 => ?_)
        clear hQ Q
        simp only [Act.put, List.setIfInBounds_toArray, List.set_cons_zero, List.set_cons_succ, List.getElem_toArray, List.getElem_cons_zero, List.getElem_cons_succ]
        obtain ⟨v2, Y3, hr2, ho2, hg2, hob2⟩ := run_append_kids W3.heap.size _ i (us.take i) ho1 g od (L.length - (i + 1)) (cap - (i + 1)) (us.drop (i + 1)) (by rw [List.length_drop]; omega) (fun j hj => by
          have hj2 : (i + 1) + j < us.length := by rw [List.length_drop] at hj; omega
          rcases HOd.out with e | e
          · rw [List.getElem_drop, e]; exact hug _ hHeld3.2 _ hj2
          · rw [List.length_drop] at hj; omega) (fun y hy => HOne.out y (List.mem_of_mem_drop hy)) (by omega) hHeld3.2.size 74
        have hbb2 : ∃ x, v2.ownBlock = some x := by
          rcases hob2 with e | e
          · exact ⟨_, e.trans rfl⟩
          · exact ⟨_, e⟩
        obtain ⟨x2, hx2⟩ := hbb2
        obtain ⟨el, hel⟩ : ∃ el, (L.eraseIdx i).length = el := ⟨_, rfl⟩
        have HEl := hideIt hel
        have hnl : i + (L.length - (i + 1)) = el := by rw [← hel, List.length_eraseIdx_of_lt hil]; omega
        clear hel
        have hxl : us.take i ++ us.drop (i + 1) = us.eraseIdx i := (List.eraseIdx_eq_take_drop_succ _ _).symm
        rw [hnl, hxl] at ho2
        obtain ⟨⟨cap2, rfl⟩, hx2b, hx2l⟩ := own_some ho2 hx2
        have hB3 : Below W3.heap.size W3 Y3 := Below.grow hHeld3.2 hg2 hHeld3.2.size (fun x e => by cases e; exact hx1b)
        refine wpAnyL_ready (rs := [16]) (by kernel_rfl) (by simp) (AllReadyL.cons rfl (fun Q hQ => ?_) AllReadyL.nil)
        refine step_append_run (by rfl) _ _ 74 rfl _ _ _ Y3 rfl rfl hr2 ?_
        refine hQ.out _ _ ⟨trivial, hB3⟩ (fun hHeld4 => ?_)
        clear hQ Q
        simp only [Act.put, List.setIfInBounds_toArray, List.set_cons_zero, List.set_cons_succ, List.getElem_toArray, List.getElem_cons_zero, List.getElem_cons_succ]
        refine wpAnyL_takeS (i := 17) (v := ?_) rfl (by kernel_rfl) (by kernel_rfl) (by kernel_rfl) (by kernel_rfl) (fun _ _ _ h => h) (Or.inl ⟨by rfl, ?_⟩) (by assumption) ?_
        rotate_left 1
        · intro wz sb
          go_simp
          all_goals with_reducible rfl
        simp only [Act.put, List.setIfInBounds_toArray, List.set_cons_zero, List.set_cons_succ, List.getElem_toArray, List.getElem_cons_zero, List.getElem_cons_succ]
        refine wpAnyL_takeS (i := 18) (v := ?_) rfl (by kernel_rfl) (by kernel_rfl) (by kernel_rfl) (by kernel_rfl) (fun _ _ _ h => h) (Or.inl ⟨by rfl, ?_⟩) (by assumption) ?_
        rotate_left 1
        · intro wz sb
          go_simp
          all_goals with_reducible rfl
        simp only [Act.put, List.setIfInBounds_toArray, List.set_cons_zero, List.set_cons_succ, List.getElem_toArray, List.getElem_cons_zero, List.getElem_cons_succ]
        have HB3 := hideIt hB3
        have y4 := HC4.out Y3 hB3
        have kb3 : Y3.heap[b]? = W2.heap[b]? := (hB3.block b (by omega)).trans (HF3.out.block b nb (by simp))
        have yf := (World.frozen?_of_block (a := ⟨b, 4, none⟩) kb3).trans bf
        have y0 := (World.cell?_of_block (a := ⟨b, 0, none⟩) kb3).trans b0
        have HO2 := hideIt ho2
        clear hr1 hr2 hg1 hg2 ho1 ho0 ho2 hob1 hob2 hB3 hB2 hx1 hx2
        refine wpAnyL_ready (rs := [19]) (by kernel_rfl) (by simp) (AllReadyL.last rfl (by kernel_rfl) (fun Q hQ => ?_) AllReadyL.nil)
        go_simp
        refine hQ.out _ _ trivial (fun _ => ?_)
        clear hQ Q
        refine wpAnyL_done (by kernel_rfl) ?_ _
        have hs5 : Y3.heap.size = (Y3.setCell ⟨b, 4, none⟩ (.slice (some ⟨x2, 0, none⟩) el cap2)).heap.size := by simp [World.setCell]
        have hF5 : Fr [b] W2 (Y3.setCell ⟨b, 4, none⟩ (.slice (some ⟨x2, 0, none⟩) el cap2)) := ((HF3.out.trans (Fr.ofBelow HB3.out)).more (by simp)).trans (Fr.set _ _ _ (by simp))
        have d4 : (Y3.setCell ⟨b, 4, none⟩ (.slice (some ⟨x2, 0, none⟩) el cap2)).cell? ⟨b, 4, none⟩ = some (.slice (some ⟨x2, 0, none⟩) el cap2) := World.cell?_setCell_same' _ _ _ (by rw [y4]; rfl)
        have d0 := (World.cell?_setCell_other Y3 ⟨b, 4, none⟩ ⟨b, 0, none⟩ (.slice (some ⟨x2, 0, none⟩) el cap2) (offN (by omega))).trans y0
        have df : (Y3.setCell ⟨b, 4, none⟩ (.slice (some ⟨x2, 0, none⟩) el cap2)).frozen? ⟨b, 4, none⟩ = false := by rw [frozen_setCell]; exact yf
        have hx2n : x2 ≠ b := by omega
        have dro : (Y3.setCell ⟨b, 4, none⟩ (.slice (some ⟨x2, 0, none⟩) el cap2)).ownsRow base 23 1 (.slice (some ⟨x2, 0, none⟩) el cap2) el (us.eraseIdx i) := ownsRow_low' (ownsRow_blk HO2.out (fun y hy => by have hy' : some x2 = some y := hy; cases hy'; exact Below.heap_setCell _ _ _ _ hx2n)) (by have := HM.out.tp.lo; omega)
        have hy5 : ∀ y, y < W2.heap.size → y ≠ b → y ∉ B :: ds → (Y3.setCell ⟨b, 4, none⟩ (.slice (some ⟨x2, 0, none⟩) el cap2)).heap[y]? = W2.heap[y]? := fun y hy hn _ => hF5.block y hy (by simpa using hn)
        obtain ⟨cs', hp1, hp2⟩ := HEr.out (DgAt n (Y3.setCell ⟨b, 4, none⟩ (.slice (some ⟨x2, 0, none⟩) el cap2)) base) (HLow.out _ hy5)
        have hcx : ∀ y ∈ cs', y < wr.heap.size := fun y hy => HM.out.gen_lt y (by simp [hp2 y hy])
        have HGen : Hid (KidsAt (DgAt n (Y3.setCell ⟨b, 4, none⟩ (.slice (some ⟨x2, 0, none⟩) el cap2)) base) (Y3.setCell ⟨b, 4, none⟩ (.slice (some ⟨x2, 0, none⟩) el cap2)) base ⟨#[109, 105, 120]⟩ (.pointer (some ⟨b, 0, none⟩)) (L.eraseIdx i) (b :: x2 :: cs')) :=
          ⟨b, x2, cap2, us.eraseIdx i, cs', rfl, rfl, h2, Ne.symm hx2n, fun e => h4 (hp2 b e), fun e => by have := hcx _ e; omega, d0, by rw [HEl.out]; exact d4, df, by rw [HEl.out]; exact dro, by rw [List.length_eraseIdx_of_lt hil]; omega, hp1⟩
        have HTp5 := hideIt (HT2.out.fr hF5 (by simpa using hBb) (by simp [h2]))
        have HF5 := hideIt (HF02.out.app2 hF5 (by simp [hbm]))
        have HRes5 := hideIt ((hF5.block _ nG (by simpa using Ne.symm hbG)).trans HR2.out)
        clear hF5 d4 d0 df dro hy5 hp1
        generalize Y3.setCell ⟨b, 4, none⟩ (.slice (some ⟨x2, 0, none⟩) el cap2) = W5 at *
        go_wp2
        go_roundg (L.eraseIdx i).length
        case measure => rw [hg, List.length_eraseIdx_of_lt hil]; omega
        case rel =>
          refine ⟨L.eraseIdx i, (nextF n L[i] t1).t, b :: x2 :: cs', rfl, HGen.out, fun y hy => ?_, HTp5.out, ?_, HF5.out, HRes5.out, HNx.out⟩
          · rcases List.mem_cons.1 hy with e | hy
            · exact .inl (by rw [e]; exact hbm)
            rcases List.mem_cons.1 hy with e | hy
            · exact .inr (by omega)
            · exact HM.out.sub y (by simp [hp2 y hy])
          · have h1 := (nextF_use n L[i] t1).1
            have h2 := HU.out
            omega
      · obtain ⟨z0, z1, z2⟩ := blk3 HR2.out
        have f0 := frozen_of_row W2 w.heap.size 0 _ 47 HR2.out
        have f1 := frozen_of_row W2 w.heap.size 1 _ 47 HR2.out
        have f2 := frozen_of_row W2 w.heap.size 2 _ 47 HR2.out
        go_wp2
        change bodyPost _ _ _ _ _ ((set3 W2 w.heap.size (.bool q) (.int .i64 kk) (.int .i64 vv)).alloc _)
        refine bodyPost_ret (results_two rfl _ _ _ _ rfl (load_set3DA _ z0 z1 z2)) rfl ?_
        obtain ⟨cs', hp1, hp2⟩ := HSet.out (DgAt n W2 base) (.pointer (some ⟨ub, 0, none⟩)) (nextF n L[i] t1).g ds' (fun y hy => (HDs'.out y hy).imp id fun e e2 => by have := HM.out.gen_lt y (by simp [e2]); omega) HG2.out (HLow.out W2 (fun _ _ _ _ => rfl))
        have hus : us.set i (.pointer (some ⟨ub, 0, none⟩)) = us := by
          apply List.ext_getElem?
          intro j
          by_cases e : i = j
          · subst e; rw [List.getElem?_set_self (by omega), hux]
          · rw [List.getElem?_set_ne e]
        rw [hus] at hp1
        cases hc : (nextF n L[i] t1).c with
        | none => have := HOk.out; rw [hc] at this; cases this
        | some c =>
          have hcl2 := HCl.out
          rw [hc] at hcl2
          have hcs' : ∀ y ∈ cs', y ∈ cs ∨ wr.heap.size ≤ y := fun y hy => by
            rcases hp2 y hy with e | e
            · exact .inl e
            · rcases HDs'.out y e with e | e
              · exact .inl (HDs.out y e)
              · exact .inr (by omega)
          refine (dtold_set3 (ok := true) (bs := b :: g :: cs') (HM.out.nx.trans (HKs.out c hc)) hcl2 rfl HF02.out HT2.out ?_ ?_ ?_ (Nat.le_refl _) hBlt).alloc _
          · refine ⟨b, g, cap, us, cs', rfl, rfl, h2, h3, fun e => ?_, fun e => ?_, b0, ?_, bf, ?_, ?_, hp1⟩
            · rcases hcs' b e with e | e
              · exact h4 e
              · omega
            · rcases hcs' g e with e | e
              · exact h5 e
              · omega
            · rw [List.length_set]; exact b4
            · rw [List.length_set]; exact HRow2.out
            · rw [List.length_set]; exact h10
          · intro y hy
            rcases List.mem_cons.1 hy with e | hy
            · exact .inl (by rw [e]; exact hbm)
            rcases List.mem_cons.1 hy with e | hy
            · exact (HM.out.sub y (by simp [e])).imp id Nat.le_of_lt
            · rcases hcs' y hy with e | e
              · exact (HM.out.sub y (by simp [e])).imp id Nat.le_of_lt
              · exact .inr (by omega)
          · intro e
            rcases List.mem_cons.1 e with e | e
            · omega
            rcases List.mem_cons.1 e with e | e
            · omega
            · rcases hcs' _ e with e | e
              · exact hcG e
              · omega

set_option maxHeartbeats 8000000 in
set_option maxRecDepth 100000 in
theorem dthen_next {n : Nat} (ih : AllDn n) (base B : Nat) (t0 : Tp) (w : World) (v : Value) (l0 : List Gt) (bs0 : List Nat) (h : DgAt (n + 1) w base v (.thn l0) bs0) (ht : TpAt w base B 0 t0) (hB : B ∉ bs0) (hu : t0.u + kidW false n l0 ≤ 1000000000) :
    Calls Tryz.prog 8 #[v, .pointer (some ⟨B, 0, none⟩)] w (DnTold (n + 1) base B t0 w v (.thn l0) bs0) := by
  have hfr : ∀ X, Fr X w (w.alloc (.cells #[.bool false, .int .i64 0, .int .i64 0] 47)) := fun X => Fr.alloc _ _ _
  obtain ⟨b, hv, hbm⟩ := h.ptr
  subst hv
  have hb0 : ∀ x ∈ bs0, base ≤ x ∧ x < w.heap.size := fun x hx => h.in_ x hx
  have hbw := (hb0 b hbm).2
  have HI : Hid (DkI false ⟨#[116, 104, 101, 110]⟩ n base B b t0 w l0 bs0 (w.alloc (.cells #[.bool false, .int .i64 0, .int .i64 0] 47)) l0 t0 bs0) :=
    ⟨DgAt.fr (g := .thn l0) h (hfr []) (by simp), fun _ hx => .inl hx, ht.fr (hfr []) (by simp) (by simp), hu, hfr _, heap_new _ _, rfl⟩
  have hBlt := ht.lt
  have hlo := ht.lo
  have HB0 := hideIt hb0
  have HBn := hideIt hB
  obtain ⟨b', g0, cap0, us0, cs0, e1, hbs0, _, _, _, _, c00, _⟩ := h
  cases e1
  clear ht hb0 hfr hB hu
  go_enter Tryz.func8, Tryz.ntmps8
  go_wp2
  clear c00
  go_loopg [6, 7, 8] l0.length (fun g _ _ _ wx => ∃ l t bs, g = l.length ∧ DkI false ⟨#[116, 104, 101, 110]⟩ n base B b t0 w l0 bs0 wx l t bs)
  case atStart => exact ⟨l0, t0, bs0, rfl, HI.out⟩
  case round =>
    obtain ⟨l, t, bs, hg, hI⟩ := hrel
    have HM := hideIt hI
    obtain ⟨⟨b', g, cap, us, cs, e1, rfl, h2, h3, h4, h5, h6, h7, h8, h9, h10, h11⟩, hsub, htp, huse, hfr, hres, hnx⟩ := hI
    cases e1
    have hblt : b < wr.heap.size := World.block_lt_of_cell? wr _ h6
    have hzz := hfr.size
    have hwr : w.heap.size < wr.heap.size := (Array.getElem?_eq_some_iff.1 hres).1
    have hbG : b ≠ w.heap.size := by omega
    have hgG : g ≠ w.heap.size := fun e => by
      rcases hsub g (by simp) with x | x
      · have := (HB0.out g x).2; omega
      · omega
    have hcG : w.heap.size ∉ cs := fun e => by
      rcases hsub _ (List.mem_cons_of_mem _ (List.mem_cons_of_mem _ e)) with x | x
      · have := (HB0.out _ x).2; omega
      · omega
    have hBbs : B ∉ b :: g :: cs := fun e => by
      rcases hsub B e with x | x
      · exact HBn.out x
      · omega
    cases l with
    | nil =>
      obtain ⟨z0, z1, z2⟩ := blk3 hres
      have f0 := frozen_of_row wr w.heap.size 0 _ 47 hres
      have f1 := frozen_of_row wr w.heap.size 1 _ 47 hres
      have f2 := frozen_of_row wr w.heap.size 2 _ 47 hres
      clear h9 h11 hfr hres hnx huse htp hsub
      simp only [List.length_nil] at h7
      go_wp2
      change bodyPost _ _ _ _ _ (set3 wr w.heap.size (.bool false) (.int .i64 0) (.int .i64 0))
      refine bodyPost_ret (results_two rfl _ _ _ _ rfl (load_set3D z0 z1 z2)) rfl ?_
      exact dtold_set3 (ok := false) (bs := b :: g :: cs) HM.out.nx rfl rfl HM.out.fr HM.out.tp HM.out.gen (fun x hx => (HM.out.sub x hx).imp id Nat.le_of_lt) (by simp [Ne.symm hbG, Ne.symm hgG, hcG]) (Nat.le_refl _) hBlt
    | cons g1 l =>
      generalize hL : g1 :: l = L at *
      have hlen : 0 < L.length := by rw [← hL]; simp
      clear hL l g1
      have hgt : (0 : Int) < (L.length : Int) := by omega
      have hul : us.length = L.length := h11.len
      obtain ⟨i, hi⟩ : ∃ i, kidI false L t = i := ⟨_, rfl⟩
      have hil : i < L.length := hi ▸ kidI_lt false t hlen
      obtain ⟨u, ds, hu1, hP, hds, hset, her⟩ := h11.at2 i hil
      obtain ⟨ub, hub, hubd⟩ := hP.ptr
      subst hub
      have hgd : L.getD (kidI false L t) (.rd 0) = L[i] := by rw [hi, List.getD_eq_getElem?_getD, List.getElem?_eq_getElem hil]; rfl
      have HU := hideIt (kidT_u false n t hlen)
      rw [hgd, hi] at HU
      have hi0 : i = 0 := hi.symm
      have HKs := hideIt (fun c (h : (nextF n L[i] (kidT false L t)).c = some c) => kid_some false n t hlen (c := c) (by rw [hgd]; exact h))
      have HKn := hideIt (fun (h : (nextF n L[i] (kidT false L t)).c = none) => kid_none false n t hlen (by rw [hgd]; exact h))
      rw [hgd, hi] at HKs HKn
      have HP := hideIt hP
      have HSet := hideIt hset
      have HEr := hideIt her
      have HDs := hideIt hds
      have HRow := hideIt h9
      have hux : us[i]? = some (.pointer (some ⟨ub, 0, none⟩)) := hu1
      have HOne := hideIt (h11.allV (q := fun u => u.oneCell' = true) (fun v g bs h => by obtain ⟨b, rfl, _⟩ := h.ptr; rfl))
      have hBd : B ∉ ds := fun e => hBbs (by simp [hds B e])
      have hBb : B ≠ b := fun e => hBbs (by simp [e])
      have hBg : B ≠ g := fun e => hBbs (by simp [e])
      have hglt : g < wr.heap.size := by
        rcases h9.2 with ⟨e, _⟩ | ⟨g', cap', cur, e, e1, e2, _⟩
        · cases e
        · cases e
          exact (Array.getElem?_eq_some_iff.1 e2).1
      have hbg : base ≤ g := by
        rcases h9.2 with ⟨e, _⟩ | ⟨g', cap', cur, e, e1, e2, _⟩
        · cases e
        · cases e
          exact e1
      have hLc : L.length ≤ cap ∧ cap ≤ maxLen := by
        rcases h9.2 with ⟨e, _⟩ | ⟨g', cap', cur, e, e1, e2, e3, e4, _⟩
        · cases e
        · cases e
          exact ⟨e3, e4⟩
      have hci := (h9.cellAt i (by omega)).trans hux
      clear hgd hP hset her hds h9 h11 hfr hres hnx htp hsub hu1
      have HT1 : Hid (TpAt wr base B 0 t) := hideIt HM.out.tp
      have hT1 := HM.out.tp
      have hF1 : Fr [B] wr wr := Fr.refl _ _
      have hkb : wr.heap[b]? = wr.heap[b]? := rfl
      have hkg : wr.heap[g]? = wr.heap[g]? := rfl
      have hkG : wr.heap[w.heap.size]? = wr.heap[w.heap.size]? := rfl
      have a0 := (World.cell?_of_block (a := ⟨b, 0, none⟩) hkb).trans h6
      have a4 := (World.cell?_of_block (a := ⟨b, 4, none⟩) hkb).trans h7
      have ai := (World.cell?_of_block (a := ⟨g, i, none⟩) hkg).trans hci
      have HFz := hideIt ((World.frozen?_of_block (a := ⟨b, 4, none⟩) hkb).trans h8)
      have HG1 := hideIt (HP.out.fr hF1 (fun c hc e => by simp at e; exact hBd (e ▸ hc)))
      have HRow1 := hideIt (ownsRow_blk HRow.out (fun y hy => by have hy' : some g = some y := hy; cases hy'; exact hkg))
      have HTp1 := hideIt hT1
      have HF1 := hideIt hF1
      have HR1 := hideIt (hkG.trans HM.out.res)
      have hs1 : wr.heap.size ≤ (wr).heap.size := hF1.size
      clear hT1 hF1 hkb hkg hkG h6 h7 h8 hci
      subst hi0
      have HTp2 : Hid (TpAt wr base B 0 (kidT false L t)) := HTp1
      generalize kidT false L t = t1 at *
      clear HTp1
      have hbon : t1.u + wtF n L[0] ≤ 1000000000 := by have := HU.out; omega
      go_wp2_with fail
      refine (ih base B t1 wr _ L[0] ds HG1.out HTp2.out hBd hbon).mono ?_
      rintro y W2 ⟨rfl, hT2, ⟨ds', hG2, hds'⟩, hF2⟩
      obtain ⟨q, kk, vv, hcl⟩ := clV_form (nextF n L[0] t1).c
      have hno : ∀ y, y ∈ b :: g :: cs → y ∉ ds → y ∉ B :: ds := fun y hy hn e => by
        rcases List.mem_cons.1 e with e | e
        · exact hBbs (e ▸ hy)
        · exact hn e
      have hbd : b ∉ ds := fun e => h4 (HDs.out b e)
      have hgd : g ∉ ds := fun e => h5 (HDs.out g e)
      have hGd : w.heap.size ∉ B :: ds := fun e => by
        rcases List.mem_cons.1 e with e | e
        · omega
        · exact hcG (HDs.out _ e)
      have hk2 : W2.heap[b]? = wr.heap[b]? := hF2.block b (by omega) (hno b (by simp) hbd)
      have hkg2 : W2.heap[g]? = wr.heap[g]? := hF2.block g (by omega) (hno g (by simp) hgd)
      have b0 := (World.cell?_of_block (a := ⟨b, 0, none⟩) hk2).trans a0
      have b4 := (World.cell?_of_block (a := ⟨b, 4, none⟩) hk2).trans a4
      have bf := (World.frozen?_of_block (a := ⟨b, 4, none⟩) hk2).trans HFz.out
      have HRow2 := hideIt (ownsRow_blk HRow1.out (fun y hy => by have hy' : some g = some y := hy; cases hy'; exact hkg2))
      have hr2 := (hF2.block w.heap.size (by omega) hGd).trans HR1.out
      have hs2 := hF2.size
      have nb : b < W2.heap.size := by omega
      have ng : g < W2.heap.size := by omega
      have nG : w.heap.size < W2.heap.size := by omega
      have nb1 : ¬ b = W2.heap.size := by omega
      have nb2 : ¬ W2.heap.size = b := by omega
      have nw1 : ¬ w.heap.size = W2.heap.size := by omega
      have nw2 : ¬ W2.heap.size = w.heap.size := by omega
      have HG2 := hideIt hG2
      have HT2 := hideIt hT2
      have HCl := hideIt hcl
      have HDs' := hideIt hds'
      have HR2 := hideIt hr2
      have HF12 : Hid (Fr (B :: ds) wr W2) := (HF1.out.more (by simp)).trans hF2
      have HF02 : Hid (Fr (B :: bs0) w W2) := HM.out.fr.app2 HF12.out (fun y hy => by
        rcases List.mem_cons.1 hy with e | e
        · exact .inl (by simp [e])
        · rcases HM.out.sub y (by simp [HDs.out y e]) with x | x
          · exact .inl (by simp [x])
          · exact .inr (Nat.le_of_lt x))
      have HLow : Hid (∀ W3, (∀ y, y < W2.heap.size → y ≠ b → y ∉ B :: ds → W3.heap[y]? = W2.heap[y]?) → ∀ v g xs, (∀ y ∈ xs, y ∈ cs ∧ y ∉ ds) → DgAt n wr base v g xs → DgAt n W3 base v g xs) := hideIt fun W3 hW3 v g xs has hp => by
        refine hp.low (fun y hy => ?_)
        obtain ⟨q1, q2⟩ := has y hy
        have hyn := hno y (by simp [q1]) q2
        have hlt := (hp.in_ y hy).2
        exact (hW3 y (by omega) (fun e => h4 (e ▸ q1)) hyn).trans (HF12.out.block y hlt hyn)
      clear hG2 hT2 hF2 hcl hds' hk2 hkg2 hr2 HTp2
      unfold clV
      rw [HCl.out]
      generalize hok : (nextF n L[0] t1).c.isSome = ok
      have HOk := hideIt hok
      clear hok
      cases ok
      · have hnone : (nextF n L[0] t1).c = none := by have := HOk.out; cases h : (nextF n L[0] t1).c with
          | none => rfl
          | some c => rw [h] at this; cases this
        have HNx := hideIt (HM.out.nx.trans (HKn.out hnone))
        have ci1 : (0 : Int) ≤ (0 : Int) := by omega
        have ci2 : (0 : Int) ≤ (cap : Int) := by omega
        have hwi : IntKind.i64.wrap ((1 : Int)) = (1 : Int) := by rw [IntKind.wrap_i64]; omega
        have ci3 : (1 : Int) ≤ (L.length : Int) := by omega
        have ci4 : (L.length : Int) ≤ (cap : Int) := by omega
        have ci5 : (0 : Int) ≤ (1 : Int) := by omega
        obtain ⟨od, hod, hod2⟩ : ∃ od, (if cap = 1 then (some ⟨g, 0, none⟩ : Option Addr) else some ⟨g, 1, none⟩) = some ⟨g, od, none⟩ ∧ (od = 1 ∨ L.length - 1 = 0) := by
          by_cases e : cap = 1
          · exact ⟨0, if_pos e, .inr (by omega)⟩
          · exact ⟨1, if_neg e, .inl rfl⟩
        have HOd := hideIt hod2
        clear hod2
        go_upto_region 18 with fail
        have c4 := (World.cell?_alloc_lt W2 (.cells #[.bool q, .int .i64 kk, .int .i64 vv] 47) ⟨b, 4, none⟩ nb).trans b4
        have hF3 : Fr [] W2 (W2.alloc (.cells #[.bool q, .int .i64 kk, .int .i64 vv] 47)) := Fr.alloc _ _ _
        have hs3 := hF3.size
        have HF3 := hideIt hF3
        clear hF3
        generalize W2.alloc (.cells #[.bool q, .int .i64 kk, .int .i64 vv] 47) = W3 at *
        have HC4 := hideIt (fun Z (hZ : Below W3.heap.size W3 Z) => (World.cell?_of_block (a := ⟨b, 4, none⟩) (hZ.block b (by omega))).trans c4)
        refine wp_region_L (B := [19]) (S := fun _ => True) (T := fun Z => Below W3.heap.size W3 Z) (by kernel_rfl) ⟨trivial, (Below.refl _ _).drew⟩ (fun hHeld => ?_)
        refine wpAnyL_takeS (i := 0) (v := ?_) rfl (by kernel_rfl) (by kernel_rfl) (by kernel_rfl) (by kernel_rfl) (fun _ _ _ h => h) (Or.inl ⟨by rfl, ?_⟩) (by assumption) ?_
        rotate_left 1
        · intro wz sb
          go_simp
          all_goals with_reducible rfl
        simp only [Act.put, List.setIfInBounds_toArray, List.set_cons_zero, List.set_cons_succ, List.getElem_toArray, List.getElem_cons_zero]
        refine wpAnyL_takeS (i := 2) (v := ?_) rfl (by kernel_rfl) (by kernel_rfl) (by kernel_rfl) (by kernel_rfl) (fun _ _ _ h => h) (Or.inl ⟨by rfl, ?_⟩) (by assumption) ?_
        rotate_left 1
        · intro wz sb
          go_simp
          all_goals with_reducible rfl
        simp only [Act.put, List.setIfInBounds_toArray, List.set_cons_zero, List.set_cons_succ, List.getElem_toArray, List.getElem_cons_zero, List.getElem_cons_succ]
        refine wpAnyL_takeS (i := 3) (v := ?_) rfl (by kernel_rfl) (by kernel_rfl) (by kernel_rfl) (by kernel_rfl) (fun _ _ _ h => h) (Or.inl ⟨by rfl, ?_⟩) (by assumption) ?_
        rotate_left 1
        · intro wz sb
          go_simp
          all_goals with_reducible rfl
        simp only [Act.put, List.setIfInBounds_toArray, List.set_cons_zero, List.set_cons_succ, List.getElem_toArray, List.getElem_cons_zero, List.getElem_cons_succ]
        refine wpAnyL_takeS (i := 4) (v := ?_) rfl (by kernel_rfl) (by kernel_rfl) (by kernel_rfl) (by kernel_rfl) (fun _ _ _ h => h) (Or.inl ⟨by rfl, ?_⟩) (by assumption) ?_
        rotate_left 1
        · intro wz sb
          go_simp
          all_goals with_reducible rfl
        simp only [Act.put, List.setIfInBounds_toArray, List.set_cons_zero, List.set_cons_succ, List.getElem_toArray, List.getElem_cons_zero, List.getElem_cons_succ]
        refine wpAnyL_take [7, 8, 16, 19] (i := 5) (v := ?_) rfl (by kernel_rfl) (by kernel_rfl) (by kernel_rfl) (by kernel_rfl) (fun _ _ _ h => h) (Or.inl ⟨by rfl, ?_⟩) (by assumption) ?_
        rotate_left 1
        · intro wz sb
          have y4 := HC4.out wz sb.2
          go_simp
          all_goals with_reducible rfl
        simp only [Act.put, List.setIfInBounds_toArray, List.set_cons_zero, List.set_cons_succ, List.getElem_toArray, List.getElem_cons_zero, List.getElem_cons_succ]
        refine wpAnyL_takeS (i := 6) (v := ?_) rfl (by kernel_rfl) (by kernel_rfl) (by kernel_rfl) (by kernel_rfl) (fun _ _ _ h => h) (Or.inl ⟨by rfl, ?_⟩) (by assumption) ?_
        rotate_left 1
        · intro wz sb
          go_simp
          all_goals with_reducible rfl
        simp only [Act.put, List.setIfInBounds_toArray, List.set_cons_zero, List.set_cons_succ, List.getElem_toArray, List.getElem_cons_zero, List.getElem_cons_succ]
        refine wpAnyL_takeS (i := 7) (v := ?_) rfl (by kernel_rfl) (by kernel_rfl) (by kernel_rfl) (by kernel_rfl) (fun _ _ _ h => h) (Or.inl ⟨by rfl, ?_⟩) (by assumption) ?_
        rotate_left 1
        · intro wz sb
          go_simp
          all_goals with_reducible rfl
        simp only [Act.put, List.setIfInBounds_toArray, List.set_cons_zero, List.set_cons_succ, List.getElem_toArray, List.getElem_cons_zero, List.getElem_cons_succ]
        refine wpAnyL_takeS (i := 9) (v := ?_) rfl (by kernel_rfl) (by kernel_rfl) (by kernel_rfl) (by kernel_rfl) (fun _ _ _ h => h) (Or.inl ⟨by rfl, ?_⟩) (by assumption) ?_
        rotate_left 1
        · intro wz sb
          go_simp
          all_goals with_reducible rfl
        simp only [Act.put, List.setIfInBounds_toArray, List.set_cons_zero, List.set_cons_succ, List.getElem_toArray, List.getElem_cons_zero, List.getElem_cons_succ]
        refine wpAnyL_takeS (i := 10) (v := ?_) rfl (by kernel_rfl) (by kernel_rfl) (by kernel_rfl) (by kernel_rfl) (fun _ _ _ h => h) (Or.inl ⟨by rfl, ?_⟩) (by assumption) ?_
        rotate_left 1
        · intro wz sb
          go_simp
          all_goals with_reducible rfl
        simp only [Act.put, List.setIfInBounds_toArray, List.set_cons_zero, List.set_cons_succ, List.getElem_toArray, List.getElem_cons_zero, List.getElem_cons_succ]
        refine wpAnyL_takeS (i := 11) (v := ?_) rfl (by kernel_rfl) (by kernel_rfl) (by kernel_rfl) (by kernel_rfl) (fun _ _ _ h => h) (Or.inl ⟨by rfl, ?_⟩) (by assumption) ?_
        rotate_left 1
        · intro wz sb
          go_simp
          all_goals with_reducible rfl
        simp only [Act.put, List.setIfInBounds_toArray, List.set_cons_zero, List.set_cons_succ, List.getElem_toArray, List.getElem_cons_zero, List.getElem_cons_succ]
        refine wpAnyL_take [15, 16, 19] (i := 12) (v := ?_) rfl (by kernel_rfl) (by kernel_rfl) (by kernel_rfl) (by kernel_rfl) (fun _ _ _ h => h) (Or.inl ⟨by rfl, ?_⟩) (by assumption) ?_
        rotate_left 1
        · intro wz sb
          have y4 := HC4.out wz sb.2
          go_simp
          all_goals with_reducible rfl
        simp only [Act.put, List.setIfInBounds_toArray, List.set_cons_zero, List.set_cons_succ, List.getElem_toArray, List.getElem_cons_zero, List.getElem_cons_succ]
        refine wpAnyL_takeS (i := 13) (v := ?_) rfl (by kernel_rfl) (by kernel_rfl) (by kernel_rfl) (by kernel_rfl) (fun _ _ _ h => h) (Or.inl ⟨by rfl, ?_⟩) (by assumption) ?_
        rotate_left 1
        · intro wz sb
          go_simp
          all_goals with_reducible rfl
        simp only [Act.put, List.setIfInBounds_toArray, List.set_cons_zero, List.set_cons_succ, List.getElem_toArray, List.getElem_cons_zero, List.getElem_cons_succ]
        refine wpAnyL_takeS (i := 14) (v := ?_) rfl (by kernel_rfl) (by kernel_rfl) (by kernel_rfl) (by kernel_rfl) (fun _ _ _ h => h) (Or.inl ⟨by rfl, ?_⟩) (by assumption) ?_
        rotate_left 1
        · intro wz sb
          go_simp
          all_goals with_reducible rfl
        simp only [Act.put, List.setIfInBounds_toArray, List.set_cons_zero, List.set_cons_succ, List.getElem_toArray, List.getElem_cons_zero, List.getElem_cons_succ]
        refine wpAnyL_takeS (i := 15) (v := ?_) rfl (by kernel_rfl) (by kernel_rfl) (by kernel_rfl) (by kernel_rfl) (fun _ _ _ h => h) (Or.inl ⟨by rfl, ?_⟩) (by assumption) ?_
        rotate_left 1
        · intro wz sb
          go_simp
          all_goals with_reducible rfl
        simp only [Act.put, List.setIfInBounds_toArray, List.set_cons_zero, List.set_cons_succ, List.getElem_toArray, List.getElem_cons_zero, List.getElem_cons_succ]
        generalize W3.drew = Y0 at hHeld ⊢
        refine wpAnyL_ready (rs := [1]) (by kernel_rfl) (by simp) (AllReadyL.cons rfl (fun Q hQ => ?_) AllReadyL.nil)
        go_simp
        have hb1 : Below W3.heap.size W3 (Y0.alloc (.cells #[] 23)) := hHeld.2.alloc hHeld.2.size _
        have ho0 : (Y0.alloc (.cells #[] 23)).ownsRow W3.heap.size 23 1 (.slice (some ⟨Y0.heap.size, 0, none⟩) 0 0) 0 [] := owns_of_cells hHeld.2.size (heap_new _ _) (Nat.le_refl _) (Nat.zero_le _) rfl rfl (fun j hj => absurd hj (by simp))
        have hY0 := hHeld.2.size
        refine hQ.out _ _ ⟨trivial, hb1⟩ (fun hHeld2 => ?_)
        clear hQ Q hb1
        generalize Y0.alloc (.cells #[] 23) = Y1 at *
        generalize Y0.heap.size = G0 at *
        have hug : ∀ (Y : World), Below W3.heap.size W3 Y → ∀ j, (hj : j < us.length) → Y.cell? ⟨g, j, none⟩ = some us[j] := fun Y hY j hj => by
          refine (World.cell?_of_block (a := ⟨g, j, none⟩) ((hY.block g (by omega)).trans (HF3.out.block g ng (by simp)))).trans ((HRow2.out.cellAt j (by omega)).trans ?_)
          exact List.getElem?_eq_getElem hj
        obtain ⟨v1, Y2, hr1, ho1, hg1, hob1⟩ := run_append_kids W3.heap.size _ 0 [] ho0 g 0 0 cap (us.take 0) (by rw [List.length_take]; omega) (fun j hj => by
          have hj2 : j < us.length := by rw [List.length_take] at hj; omega
          rw [List.getElem_take, Nat.zero_add]; exact hug _ hHeld2.2 j hj2) (fun y hy => HOne.out y (List.mem_of_mem_take hy)) (by omega) hHeld2.2.size 74
        have hbb1 : ∃ x, v1.ownBlock = some x := by
          rcases hob1 with e | e
          · exact ⟨_, e.trans rfl⟩
          · exact ⟨_, e⟩
        obtain ⟨x1, hx1⟩ := hbb1
        obtain ⟨⟨cap1, rfl⟩, hx1b, hx1l⟩ := own_some ho1 hx1
        have hB2 : Below W3.heap.size W3 Y2 := Below.grow hHeld2.2 hg1 hHeld2.2.size (fun x e => by cases e; exact hY0)
        rw [Nat.zero_add] at ho1 hr1
        rw [List.nil_append] at ho1
        refine wpAnyL_ready (rs := [8]) (by kernel_rfl) (by simp) (AllReadyL.cons rfl (fun Q hQ => ?_) AllReadyL.nil)
        refine step_append_run (by rfl) _ _ 74 rfl _ _ _ Y2 rfl rfl hr1 ?_
        refine hQ.out _ _ ⟨trivial, hB2⟩ (fun hHeld3 => ?_)
        clear hQ Q
        simp only [Act.put, List.setIfInBounds_toArray, List.set_cons_zero, List.set_cons_succ, List.getElem_toArray, List.getElem_cons_zero, List.getElem_cons_succ]
        obtain ⟨v2, Y3, hr2, ho2, hg2, hob2⟩ := run_append_kids W3.heap.size _ 0 (us.take 0) ho1 g od (L.length - 1) (cap - 1) (us.drop 1) (by rw [List.length_drop]; omega) (fun j hj => by
          have hj2 : 1 + j < us.length := by rw [List.length_drop] at hj; omega
          rcases HOd.out with e | e
          · rw [List.getElem_drop, e]; exact hug _ hHeld3.2 _ hj2
          · rw [List.length_drop] at hj; omega) (fun y hy => HOne.out y (List.mem_of_mem_drop hy)) (by omega) hHeld3.2.size 74
        have hbb2 : ∃ x, v2.ownBlock = some x := by
          rcases hob2 with e | e
          · exact ⟨_, e.trans rfl⟩
          · exact ⟨_, e⟩
        obtain ⟨x2, hx2⟩ := hbb2
        obtain ⟨el, hel⟩ : ∃ el, (L.eraseIdx 0).length = el := ⟨_, rfl⟩
        have HEl := hideIt hel
        have hnl : 0 + (L.length - 1) = el := by rw [← hel, List.length_eraseIdx_of_lt hil]; omega
        clear hel
        have hxl : us.take 0 ++ us.drop 1 = us.eraseIdx 0 := (List.eraseIdx_eq_take_drop_succ _ _).symm
        rw [hnl, hxl] at ho2
        obtain ⟨⟨cap2, rfl⟩, hx2b, hx2l⟩ := own_some ho2 hx2
        have hB3 : Below W3.heap.size W3 Y3 := Below.grow hHeld3.2 hg2 hHeld3.2.size (fun x e => by cases e; exact hx1b)
        refine wpAnyL_ready (rs := [16]) (by kernel_rfl) (by simp) (AllReadyL.cons rfl (fun Q hQ => ?_) AllReadyL.nil)
        refine step_append_run (by rfl) _ _ 74 rfl _ _ _ Y3 rfl rfl hr2 ?_
        refine hQ.out _ _ ⟨trivial, hB3⟩ (fun hHeld4 => ?_)
        clear hQ Q
        simp only [Act.put, List.setIfInBounds_toArray, List.set_cons_zero, List.set_cons_succ, List.getElem_toArray, List.getElem_cons_zero, List.getElem_cons_succ]
        refine wpAnyL_takeS (i := 17) (v := ?_) rfl (by kernel_rfl) (by kernel_rfl) (by kernel_rfl) (by kernel_rfl) (fun _ _ _ h => h) (Or.inl ⟨by rfl, ?_⟩) (by assumption) ?_
        rotate_left 1
        · intro wz sb
          go_simp
          all_goals with_reducible rfl
        simp only [Act.put, List.setIfInBounds_toArray, List.set_cons_zero, List.set_cons_succ, List.getElem_toArray, List.getElem_cons_zero, List.getElem_cons_succ]
        refine wpAnyL_takeS (i := 18) (v := ?_) rfl (by kernel_rfl) (by kernel_rfl) (by kernel_rfl) (by kernel_rfl) (fun _ _ _ h => h) (Or.inl ⟨by rfl, ?_⟩) (by assumption) ?_
        rotate_left 1
        · intro wz sb
          go_simp
          all_goals with_reducible rfl
        simp only [Act.put, List.setIfInBounds_toArray, List.set_cons_zero, List.set_cons_succ, List.getElem_toArray, List.getElem_cons_zero, List.getElem_cons_succ]
        have HB3 := hideIt hB3
        have y4 := HC4.out Y3 hB3
        have kb3 : Y3.heap[b]? = W2.heap[b]? := (hB3.block b (by omega)).trans (HF3.out.block b nb (by simp))
        have yf := (World.frozen?_of_block (a := ⟨b, 4, none⟩) kb3).trans bf
        have y0 := (World.cell?_of_block (a := ⟨b, 0, none⟩) kb3).trans b0
        have HO2 := hideIt ho2
        clear hr1 hr2 hg1 hg2 ho1 ho0 ho2 hob1 hob2 hB3 hB2 hx1 hx2
        refine wpAnyL_ready (rs := [19]) (by kernel_rfl) (by simp) (AllReadyL.last rfl (by kernel_rfl) (fun Q hQ => ?_) AllReadyL.nil)
        go_simp
        refine hQ.out _ _ trivial (fun _ => ?_)
        clear hQ Q
        refine wpAnyL_done (by kernel_rfl) ?_ _
        have hs5 : Y3.heap.size = (Y3.setCell ⟨b, 4, none⟩ (.slice (some ⟨x2, 0, none⟩) el cap2)).heap.size := by simp [World.setCell]
        have hF5 : Fr [b] W2 (Y3.setCell ⟨b, 4, none⟩ (.slice (some ⟨x2, 0, none⟩) el cap2)) := ((HF3.out.trans (Fr.ofBelow HB3.out)).more (by simp)).trans (Fr.set _ _ _ (by simp))
        have d4 : (Y3.setCell ⟨b, 4, none⟩ (.slice (some ⟨x2, 0, none⟩) el cap2)).cell? ⟨b, 4, none⟩ = some (.slice (some ⟨x2, 0, none⟩) el cap2) := World.cell?_setCell_same' _ _ _ (by rw [y4]; rfl)
        have d0 := (World.cell?_setCell_other Y3 ⟨b, 4, none⟩ ⟨b, 0, none⟩ (.slice (some ⟨x2, 0, none⟩) el cap2) (offN (by omega))).trans y0
        have df : (Y3.setCell ⟨b, 4, none⟩ (.slice (some ⟨x2, 0, none⟩) el cap2)).frozen? ⟨b, 4, none⟩ = false := by rw [frozen_setCell]; exact yf
        have hx2n : x2 ≠ b := by omega
        have dro : (Y3.setCell ⟨b, 4, none⟩ (.slice (some ⟨x2, 0, none⟩) el cap2)).ownsRow base 23 1 (.slice (some ⟨x2, 0, none⟩) el cap2) el (us.eraseIdx 0) := ownsRow_low' (ownsRow_blk HO2.out (fun y hy => by have hy' : some x2 = some y := hy; cases hy'; exact Below.heap_setCell _ _ _ _ hx2n)) (by have := HM.out.tp.lo; omega)
        have hy5 : ∀ y, y < W2.heap.size → y ≠ b → y ∉ B :: ds → (Y3.setCell ⟨b, 4, none⟩ (.slice (some ⟨x2, 0, none⟩) el cap2)).heap[y]? = W2.heap[y]? := fun y hy hn _ => hF5.block y hy (by simpa using hn)
        obtain ⟨cs', hp1, hp2⟩ := HEr.out (DgAt n (Y3.setCell ⟨b, 4, none⟩ (.slice (some ⟨x2, 0, none⟩) el cap2)) base) (HLow.out _ hy5)
        have hcx : ∀ y ∈ cs', y < wr.heap.size := fun y hy => HM.out.gen_lt y (by simp [hp2 y hy])
        have HGen : Hid (KidsAt (DgAt n (Y3.setCell ⟨b, 4, none⟩ (.slice (some ⟨x2, 0, none⟩) el cap2)) base) (Y3.setCell ⟨b, 4, none⟩ (.slice (some ⟨x2, 0, none⟩) el cap2)) base ⟨#[116, 104, 101, 110]⟩ (.pointer (some ⟨b, 0, none⟩)) (L.eraseIdx 0) (b :: x2 :: cs')) :=
          ⟨b, x2, cap2, us.eraseIdx 0, cs', rfl, rfl, h2, Ne.symm hx2n, fun e => h4 (hp2 b e), fun e => by have := hcx _ e; omega, d0, by rw [HEl.out]; exact d4, df, by rw [HEl.out]; exact dro, by rw [List.length_eraseIdx_of_lt hil]; omega, hp1⟩
        have HTp5 := hideIt (HT2.out.fr hF5 (by simpa using hBb) (by simp [h2]))
        have HF5 := hideIt (HF02.out.app2 hF5 (by simp [hbm]))
        have HRes5 := hideIt ((hF5.block _ nG (by simpa using Ne.symm hbG)).trans HR2.out)
        clear hF5 d4 d0 df dro hy5 hp1
        generalize Y3.setCell ⟨b, 4, none⟩ (.slice (some ⟨x2, 0, none⟩) el cap2) = W5 at *
        go_wp2
        go_roundg (L.eraseIdx 0).length
        case measure => rw [hg, List.length_eraseIdx_of_lt hil]; omega
        case rel =>
          refine ⟨L.eraseIdx 0, (nextF n L[0] t1).t, b :: x2 :: cs', rfl, HGen.out, fun y hy => ?_, HTp5.out, ?_, HF5.out, HRes5.out, HNx.out⟩
          · rcases List.mem_cons.1 hy with e | hy
            · exact .inl (by rw [e]; exact hbm)
            rcases List.mem_cons.1 hy with e | hy
            · exact .inr (by omega)
            · exact HM.out.sub y (by simp [hp2 y hy])
          · have h1 := (nextF_use n L[0] t1).1
            have h2 := HU.out
            omega
      · obtain ⟨z0, z1, z2⟩ := blk3 HR2.out
        have f0 := frozen_of_row W2 w.heap.size 0 _ 47 HR2.out
        have f1 := frozen_of_row W2 w.heap.size 1 _ 47 HR2.out
        have f2 := frozen_of_row W2 w.heap.size 2 _ 47 HR2.out
        go_wp2
        change bodyPost _ _ _ _ _ ((set3 W2 w.heap.size (.bool q) (.int .i64 kk) (.int .i64 vv)).alloc _)
        refine bodyPost_ret (results_two rfl _ _ _ _ rfl (load_set3DA _ z0 z1 z2)) rfl ?_
        obtain ⟨cs', hp1, hp2⟩ := HSet.out (DgAt n W2 base) (.pointer (some ⟨ub, 0, none⟩)) (nextF n L[0] t1).g ds' (fun y hy => (HDs'.out y hy).imp id fun e e2 => by have := HM.out.gen_lt y (by simp [e2]); omega) HG2.out (HLow.out W2 (fun _ _ _ _ => rfl))
        have hus : us.set 0 (.pointer (some ⟨ub, 0, none⟩)) = us := by
          apply List.ext_getElem?
          intro j
          by_cases e : 0 = j
          · subst e; rw [List.getElem?_set_self (by omega), hux]
          · rw [List.getElem?_set_ne e]
        rw [hus] at hp1
        cases hc : (nextF n L[0] t1).c with
        | none => have := HOk.out; rw [hc] at this; cases this
        | some c =>
          have hcl2 := HCl.out
          rw [hc] at hcl2
          have hcs' : ∀ y ∈ cs', y ∈ cs ∨ wr.heap.size ≤ y := fun y hy => by
            rcases hp2 y hy with e | e
            · exact .inl e
            · rcases HDs'.out y e with e | e
              · exact .inl (HDs.out y e)
              · exact .inr (by omega)
          refine (dtold_set3 (ok := true) (bs := b :: g :: cs') (HM.out.nx.trans (HKs.out c hc)) hcl2 rfl HF02.out HT2.out ?_ ?_ ?_ (Nat.le_refl _) hBlt).alloc _
          · refine ⟨b, g, cap, us, cs', rfl, rfl, h2, h3, fun e => ?_, fun e => ?_, b0, ?_, bf, ?_, ?_, hp1⟩
            · rcases hcs' b e with e | e
              · exact h4 e
              · omega
            · rcases hcs' g e with e | e
              · exact h5 e
              · omega
            · rw [List.length_set]; exact b4
            · rw [List.length_set]; exact HRow2.out
            · rw [List.length_set]; exact h10
          · intro y hy
            rcases List.mem_cons.1 hy with e | hy
            · exact .inl (by rw [e]; exact hbm)
            rcases List.mem_cons.1 hy with e | hy
            · exact (HM.out.sub y (by simp [e])).imp id Nat.le_of_lt
            · rcases hcs' y hy with e | e
              · exact (HM.out.sub y (by simp [e])).imp id Nat.le_of_lt
              · exact .inr (by omega)
          · intro e
            rcases List.mem_cons.1 e with e | e
            · omega
            rcases List.mem_cons.1 e with e | e
            · omega
            · rcases hcs' _ e with e | e
              · exact hcG e
              · omega

/-- Every generator of the document's: what next gives. -/
theorem allDn : ∀ n, AllDn n
  | 0 => fun _ _ _ _ _ _ _ h => h.elim
  | n + 1 => by
    intro base B t w v g bs h ht hB hu
    have ih := allDn n
    cases g with
    | rd k => exact dread_next n base B k t w v bs h ht
    | wr k lo hi => exact dwrite_next n base B k lo hi t w v bs h ht hB (by simp [wtF] at hu; omega)
    | lim g left => exact dlimit_next ih base B t w v g left bs h ht hB (by simpa [wtF] using hu)
    | mix l => exact dmix_next ih base B t w v l bs h ht hB hu
    | thn l => exact dthen_next ih base B t w v l bs h ht hB hu
end Go.Proofs.YthblokfiojccmaaGreatDoor.Gn
