/-
  Take: at most so many calls.
-/
import Derived.Test.YthblokfiojccmaaGreatDoorNxD
namespace Go.Proofs.YthblokfiojccmaaGreatDoor.Gn
open Go.RowKit Go.Shelf

def clC (c : Cl) : List Value := [.bool c.wr, .int .i64 c.key, .int .i64 c.v]
def clCs (L : List Cl) : List Value := L.flatMap clC
theorem clCs_snoc (L : List Cl) (c : Cl) : clCs (L ++ [c]) = clCs L ++ clC c := by simp [clCs]
theorem infoCl : (Tryz.prog.info? 51).map (fun i => (i.zero, i.size, i.bytes)) = some (some (.agg #[.bool false, .int .i64 0, .int .i64 0]), 3, 24) := by kernel_rfl

/-- What Take tells. -/
structure TkTold (n most base B o : Nat) (t : Tp) (w : World) (v : Value) (g : Gt) (bs : List Nat) (e : Ending) (w' : World) : Prop where
  ret : ∃ sl, e = .returned (.tuple #[sl, .nilIface]) ∧ w'.ownsRow w.heap.size 51 3 sl (takeF n most g t).l.length (clCs (takeF n most g t).l)
  tp : TpAt w' base B o (takeF n most g t).t
  gen : ∃ bs', GAt n w' base v (takeF n most g t).g bs' ∧ ∀ b ∈ bs', b ∈ bs
  fr : Fr (B :: bs) w w'
  oth : ∀ p : Addr, p.block = B → p ≠ ⟨B, o + 1, none⟩ → w'.cell? p = w.cell? p ∧ w'.frozen? p = w.frozen? p

/-- Where its loop stands. -/
structure TkI (n most base B o : Nat) (t0 : Tp) (w : World) (v : Value) (g0 : Gt) (bs0 : List Nat) (wx : World) (sl : Value) (L : List Cl) (g : Gt) (t : Tp) (bs : List Nat) : Prop where
  gen : GAt n wx base v g bs
  sub : ∀ x ∈ bs, x ∈ bs0
  tp : TpAt wx base B o t
  row : wx.ownsRow w.heap.size 51 3 sl L.length (clCs L)
  len : L.length ≤ most
  use : t.u + (most - L.length) * wtF n g ≤ 1000000000
  fr : Fr (B :: bs0) w wx
  oth : ∀ p : Addr, p.block = B → p ≠ ⟨B, o + 1, none⟩ → wx.cell? p = w.cell? p ∧ wx.frozen? p = w.frozen? p
  tk : takeF n most g0 t0 = ⟨L ++ (takeF n (most - L.length) g t).l, (takeF n (most - L.length) g t).g, (takeF n (most - L.length) g t).t⟩
theorem TkI.done {n most base B o : Nat} {t0 : Tp} {w : World} {v : Value} {g0 : Gt} {bs0 : List Nat} {wx : World} {sl : Value} {L : List Cl} {g : Gt} {t : Tp} {bs : List Nat} (h : TkI n most base B o t0 w v g0 bs0 wx sl L g t bs) (hd : most - L.length = 0) :
    TkTold n most base B o t0 w v g0 bs0 (.returned (.tuple #[sl, .nilIface])) wx := by
  have ht := h.tk
  rw [hd] at ht
  have e : takeF n most g0 t0 = ⟨L, g, t⟩ := by rw [ht]; simp [takeF]
  exact ⟨⟨sl, rfl, by rw [e]; exact h.row⟩, by rw [e]; exact h.tp, by rw [e]; exact ⟨bs, h.gen, h.sub⟩, h.fr, h.oth⟩

set_option maxHeartbeats 8000000 in
set_option maxRecDepth 100000 in
theorem take_any (n most base B o : Nat) (t0 : Tp) (w : World) (v : Value) (g0 : Gt) (bs0 : List Nat) (h : GAt n w base v g0 bs0) (ht : TpAt w base B o t0) (hB : B ∉ bs0) (hm : most ≤ 1000) (hu : t0.u + most * wtF n g0 ≤ 1000000000) :
    Calls Tryz.prog 6 #[v, .pointer (some ⟨B, o, none⟩), .int .i64 (most : Nat)] w (TkTold n most base B o t0 w v g0 bs0) := by
  obtain ⟨T, x, F, hMt⟩ := met_of h
  have hsh := hMt.shape
  subst hsh
  have hnil := hMt.nil
  have hmet := hMt.met
  have hent := hMt.ent
  have HMt := hideIt hMt
  have HI : Hid (TkI n most base B o t0 w (.iface T x) g0 bs0 w (.slice none 0 0) [] g0 t0 bs0) :=
    ⟨h, fun _ hx => hx, ht, World.ownsRow_nil _ _ _ _, Nat.zero_le _, by simpa using hu, Fr.refl _ _, fun p _ _ => ⟨rfl, rfl⟩, by simp⟩
  have hBlt := ht.lt
  have hlo := ht.lo
  have hb0 : ∀ x ∈ bs0, base ≤ x ∧ x < w.heap.size := fun x hx => h.in_ x hx
  have HB0 := hideIt hb0
  have HBn := hideIt hB
  have hm' : ¬ (1000 : Int) < (most : Int) := by omega
  clear h ht hb0 hB hu hMt
  go_enter Tryz.func6, Tryz.ntmps6
  go_wp2
  go_loopg [8, 9, 10] most (fun k sl _ _ wx => ∃ L g t bs, k + L.length = most ∧ TkI n most base B o t0 w (.iface T x) g0 bs0 wx sl L g t bs)
  case atStart => exact ⟨[], g0, t0, bs0, rfl, HI.out⟩
  case round =>
    obtain ⟨L, g, t, bs, hk, hI⟩ := hrel
    have HM := hideIt hI
    obtain ⟨hgen, hsub, htp, hrow, hlen, huse, hfr, hoth, htk⟩ := hI
    obtain ⟨a8, cap, hsl⟩ : ∃ a c, u8 = .slice a L.length c := by
      rcases hrow.2 with ⟨e, e2⟩ | ⟨g', c, cur, e, _⟩
      · exact ⟨none, 0, by rw [e, e2]⟩
      · exact ⟨_, _, e⟩
    subst hsl
    have hzz := hfr.size
    cases gk with
    | zero =>
      have hge : ¬ (L.length : Int) < (most : Int) := by omega
      clear hgen hsub htp hrow huse hfr hoth htk
      go_wp2
      go_ret2
      exact HM.out.done (by omega)
    | succ k =>
      have hlt : (L.length : Int) < (most : Int) := by omega
      obtain ⟨r, hr⟩ : ∃ r, most - L.length = r + 1 := ⟨k, by omega⟩
      have hmul : (r + 1) * wtF n g = r * wtF n g + wtF n g := Nat.succ_mul _ _
      rw [hr, hmul] at huse
      have hBn : B ∉ bs := fun e => HBn.out (hsub B e)
      have hN := allNx n base B o t wr (.iface T x) g bs hgen htp hBn (by omega) T x F HMt.out
      have HN := hideIt hN
      have HRow := hideIt hrow
      clear hN hgen hrow hfr hoth htk hsub htp
      go_wp2_with fail
      refine HN.out.mono ?_
      rintro y W2 ⟨rfl, hT2, ⟨bs', hG2, hbs'⟩, hF2, hO2⟩
      have hnu := nextF_use n g t
      obtain ⟨q, kk, vv, hcl⟩ := clV_form (nextF n g t).c
      have hs2 := hF2.size
      have hrowE : ∀ y, (Value.slice a8 L.length cap).ownBlock = some y → W2.heap[y]? = wr.heap[y]? := fun y hy => by
        rcases HRow.out.2 with ⟨e, _⟩ | ⟨g', c, cur, e, e1, e2, _⟩
        · rw [e] at hy; cases hy
        · rw [e] at hy
          have hy' : some g' = some y := hy
          injection hy' with hy'
          rw [← hy']
          refine hF2.block g' (Array.getElem?_eq_some_iff.1 e2).1 (fun e => ?_)
          rcases List.mem_cons.1 e with e | e
          · omega
          · have := (HB0.out g' (HM.out.sub g' e)).2; omega
      have HRow2 := hideIt (ownsRow_blk HRow.out hrowE)
      have HG2 := hideIt hG2
      have HT2 := hideIt hT2
      have HF2 := hideIt hF2
      have HO2 := hideIt hO2
      have HCl := hideIt hcl
      have HBs' := hideIt hbs'
      have HF02 : Hid (Fr (B :: bs0) w W2) := HM.out.fr.trans (HF2.out.more (fun y hy => .inl (by rcases List.mem_cons.1 hy with h | h; simp [h]; simp [HM.out.sub y h])))
      have HO02 : Hid (∀ p : Addr, p.block = B → p ≠ ⟨B, o + 1, none⟩ → W2.cell? p = w.cell? p ∧ W2.frozen? p = w.frozen? p) := fun p hp hq => by
        obtain ⟨x1, x2⟩ := HO2.out p hp hq
        obtain ⟨v1, v2⟩ := HM.out.oth p hp hq
        exact ⟨x1.trans v1, x2.trans v2⟩
      unfold clV
      rw [hcl]
      generalize hok : (nextF n g t).c.isSome = ok
      have HOk := hideIt hok
      clear hG2 hT2 hF2 hO2 hcl hbs' hrowE hok
      cases ok
      · have hnone : (nextF n g t).c = none := by have := HOk.out; cases h : (nextF n g t).c with
          | none => rfl
          | some c => rw [h] at this; cases this
        have htk : Hid (takeF n most g0 t0 = ⟨L, (nextF n g t).g, (nextF n g t).t⟩) := hideIt (by
          rw [HM.out.tk, hr, takeF_none hnone]; simp)
        go_wp2
        go_ret2
        have hfA := fun X ob => Fr.alloc X W2 ob
        refine ⟨⟨_, rfl, by rw [htk.out]; exact HRow2.out.alloc _⟩, by rw [htk.out]; exact HT2.out.fr (hfA [] _) (by simp) (by simp), by rw [htk.out]; exact ⟨bs', HG2.out.fr (hfA [] _) (by simp), fun y hy => HM.out.sub y (HBs'.out y hy)⟩, HF02.out.trans (hfA _ _), fun p hp hq => ?_⟩
        obtain ⟨x1, x2⟩ := oth_of (hfA [] (.cells #[.bool q, .int .i64 kk, .int .i64 vv] 51)) (by omega) (by simp) p hp
        obtain ⟨y1, y2⟩ := HO02.out p hp hq
        exact ⟨x1.trans y1, x2.trans y2⟩
      · obtain ⟨i0, hi, hz0, hz1, hz2⟩ := info_parts' infoCl
        go_wp2_with (at_builtin; refine wpList_append_own _ rfl _ _ 38 rfl w.heap.size 51 i0 _ 3 24 Tryz.underlying38 hi hz0 hz1 hz2 rfl (by decide) _ _ _ rfl ((HRow2.out.alloc _).alloc _) ⟨W2.heap.size + 1, 0, none⟩ 1 1 [.bool q, .int .i64 kk, .int .i64 vv] rfl rfl ?c1 ?c2 ?c3 ?c4 ?c5 ?_)
        case c1 =>
          intro j u hj
          match j, hj with
          | 0, hj => simp at hj; subst hj; simp [Addr.add]
          | 1, hj => simp at hj; subst hj; simp [Addr.add]
          | 2, hj => simp at hj; subst hj; simp [Addr.add]
          | n + 3, hj => simp at hj
        case c2 => intro u hu; simp at hu; rcases hu with rfl | rfl | rfl <;> rfl
        case c3 => unfold maxLen; omega
        case c4 => omega
        case c5 => simp; omega
        intro v5 W5 ho5 hg5 _
        have hs5 := hg5.size
        simp only [World.size_alloc] at hs5
        have HO5 := hideIt ho5
        have HG5 := hideIt hg5
        clear ho5 hg5
        go_wp2
        go_roundg k
        case measure => omega
        case rel =>
          cases hc : (nextF n g t).c with
          | none => have := HOk.out; rw [hc] at this; cases this
          | some c =>
            have hcl2 := HCl.out
            rw [hc] at hcl2
            have hcc : [Value.bool q, .int .i64 kk, .int .i64 vv] = clC c := by
              have e : clA (some c) = .agg #[.bool c.wr, .int .i64 c.key, .int .i64 c.v] := rfl
              rw [e] at hcl2
              injection hcl2 with hcl2
              simp only [clC]
              simpa using (congrArg Array.toList hcl2).symm
            have hblk : ∀ y, y ∈ B :: bs0 → W5.heap[y]? = W2.heap[y]? := fun y hy => by
              have hyl : y < w.heap.size := by
                rcases List.mem_cons.1 hy with h | h
                · omega
                · exact (HB0.out y h).2
              refine (HG5.out.block y (by simp; omega) (fun e => ?_)).trans ((Below.heap_alloc _ _ _ (by simp; omega)).trans (Below.heap_alloc _ _ _ (by omega)))
              rcases HRow2.out.2 with ⟨e', _⟩ | ⟨g', c', cur, e', e1, _⟩
              · rw [e'] at e; cases e
              · rw [e'] at e
                have e2 : some y = some g' := e
                cases e2
                omega
            have hall : Fr (B :: bs0) w W5 := by
              have h1 := HF02.out.trans ((Fr.alloc (B :: bs0) W2 (.cells #[.bool q, .int .i64 kk, .int .i64 vv] 51)).trans (Fr.alloc _ _ (.cells #[.bool q, .int .i64 kk, .int .i64 vv] 51)))
              refine ⟨HG5.out.os.trans h1.os, HG5.out.tape.trans h1.tape, HG5.out.output.trans h1.output, by omega, fun j hj hn => ?_⟩
              refine (HG5.out.block j (by simp; omega) (fun e => ?_)).trans (h1.block j hj hn)
              rcases HRow2.out.2 with ⟨e', _⟩ | ⟨g', c', cur, e', e1, _⟩
              · rw [e'] at e; cases e
              · rw [e'] at e
                have e2 : some j = some g' := e
                cases e2
                omega
            have hBk := hblk B (by simp)
            refine ⟨L ++ [c], (nextF n g t).g, (nextF n g t).t, bs', by simp; omega, ?_, fun y hy => HM.out.sub y (HBs'.out y hy), ?_, ?_, by simp; omega, ?_, hall, ?_, ?_⟩
            · exact HG2.out.low (fun y hy => hblk y (by simp [HM.out.sub y (HBs'.out y hy)])) (by omega)
            · obtain ⟨⟨ta, tc, c0, hcap, hrr⟩, c1, hm2, hlo2⟩ := HT2.out
              refine ⟨⟨ta, tc, (World.cell?_of_block (a := ⟨B, o, none⟩) hBk).trans c0, hcap, hrr.imp id fun ⟨b, off, e, hb, hcc⟩ => ⟨b, off, e, hb, fun i hi => ?_⟩⟩, (World.cell?_of_block (a := ⟨B, o + 1, none⟩) hBk).trans c1, (World.frozen?_of_block (a := ⟨B, o + 1, none⟩) hBk).trans hm2, hlo2⟩
              have hbW : W5.heap[b]? = W2.heap[b]? := by
                refine (HG5.out.block b (by simp; omega) (fun e => ?_)).trans ((Below.heap_alloc _ _ _ (by simp; omega)).trans (Below.heap_alloc _ _ _ (by omega)))
                rcases HRow2.out.2 with ⟨e', _⟩ | ⟨g', c', cur, e', e1, _⟩
                · rw [e'] at e; cases e
                · rw [e'] at e
                  have e2 : some b = some g' := e
                  cases e2
                  omega
              exact (World.cell?_of_block (a := ⟨b, off + i, none⟩) hbW).trans (hcc i hi)
            · rw [clCs_snoc, ← hcc]
              simpa using HO5.out
            · have e1 : most - (L ++ [c]).length = r := by simp; omega
              rw [e1]
              have := Nat.mul_le_mul_left r hnu.2
              omega
            · intro p hp hq
              obtain ⟨y1, y2⟩ := HO02.out p hp hq
              subst hp
              exact ⟨(World.cell?_of_block hBk).trans y1, (World.frozen?_of_block hBk).trans y2⟩
            · have e1 : most - (L ++ [c]).length = r := by simp; omega
              rw [HM.out.tk, hr, takeF_some hc, e1]
              simp
end Go.Proofs.YthblokfiojccmaaGreatDoor.Gn
