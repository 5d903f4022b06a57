/-
  What next gives: how it is called, and a limit.
-/
import Derived.Test.YthblokfiojccmaaGreatDoorNxA
import Derived.Shelf.Abstract
namespace Go.Proofs.YthblokfiojccmaaGreatDoor.Gn
open Go.RowKit Go.Shelf

theorem Parts.all {P : Value → Gt → List Nat → Prop} {q : Nat → Prop} {vs : List Value} {gs : List Gt} {cs : List Nat} (h : Parts P vs gs cs) (k : ∀ v g bs, P v g bs → ∀ b ∈ bs, q b) : ∀ b ∈ cs, q b := by
  induction h with
  | nil => simp
  | cons h hs ha ih =>
    intro b hb
    rcases List.mem_append.1 hb with hb | hb
    · exact k _ _ _ h b hb
    · exact ih b hb
theorem GAt.in_ : ∀ {n : Nat} {w : World} {base : Nat} {v : Value} {g : Gt} {bs : List Nat}, GAt n w base v g bs → ∀ b ∈ bs, base ≤ b ∧ b < w.heap.size
  | 0, _, _, _, _, _, h => h.elim
  | _ + 1, _, _, _, .rd _, _, h => by rw [h.2]; simp
  | _ + 1, _, _, _, .wr _ _ _, _, h => by rw [h.2.1]; simp
  | n + 1, w, base, v, .lim g left, bs, h => by
    obtain ⟨b, u, cs, h1, rfl, h2, h3, h4, h5, h6, h7, h8⟩ := h
    intro c hc
    rcases List.mem_cons.1 hc with rfl | hc
    · exact ⟨h2, World.block_lt_of_cell? w _ h4⟩
    · exact h8.in_ c hc
  | n + 1, w, base, v, .mix l, bs, h => by
    obtain ⟨b, g, cap, us, cs, h1, rfl, h2, h3, h4, h5, h6, h7, h8, h9, h10⟩ := h
    intro c hc
    rcases List.mem_cons.1 hc with rfl | hc
    · exact ⟨h2, World.block_lt_of_cell? w _ h6⟩
    rcases List.mem_cons.1 hc with rfl | hc
    · rcases h8.2 with ⟨e, _⟩ | ⟨g', cap', cur, e, e1, e2, _⟩
      · cases e
      · cases e
        exact ⟨e1, (Array.getElem?_eq_some_iff.1 e2).1⟩
    · exact h10.all (fun v g bs hp => hp.in_) c hc
  | n + 1, w, base, v, .thn l, bs, h => by
    obtain ⟨b, r, g, us, cs, h1, rfl, h2, h3, h4, h5, h6, h7, ⟨o, cap, r1, r2, r3, r4, r5, r6⟩, h9, h10⟩ := h
    intro c hc
    rcases List.mem_cons.1 hc with rfl | hc
    · exact ⟨h2, World.block_lt_of_cell? w _ h6⟩
    rcases List.mem_cons.1 hc with rfl | hc
    · exact ⟨r4, r5⟩
    · exact h10.all (fun v g bs hp => hp.in_) c hc
theorem GAt.fr {n : Nat} {w w' : World} {base : Nat} {v : Value} {g : Gt} {bs X : List Nat} (h : GAt n w base v g bs) (hg : Fr X w w') (hX : ∀ b ∈ bs, b ∉ X) : GAt n w' base v g bs :=
  h.low (fun b hb => hg.block b (h.in_ b hb).2 (hX b hb)) hg.size

theorem nil_rd (a : Value) (w : World) : (nilAhead 322 85 (.agg #[a]) "Next").run Tryz.prog w = .ok (some false) w := by kernel_rfl
theorem met_rd (a : Value) (w : World) : (method 322 85 (.agg #[a]) "Next").run Tryz.prog w = .ok (115, .agg #[a]) w := by kernel_rfl
theorem nil_wr (a b c : Value) (w : World) : (nilAhead 322 104 (.agg #[a, b, c]) "Next").run Tryz.prog w = .ok (some false) w := by kernel_rfl
theorem met_wr (a b c : Value) (w : World) : (method 322 104 (.agg #[a, b, c]) "Next").run Tryz.prog w = .ok (121, .agg #[a, b, c]) w := by kernel_rfl
theorem nil_lim (a : Addr) (w : World) : (nilAhead 322 87 (.pointer (some a)) "Next").run Tryz.prog w = .ok (some false) w := by kernel_rfl
theorem met_lim (a : Addr) (w : World) : (method 322 87 (.pointer (some a)) "Next").run Tryz.prog w = .ok (116, .pointer (some a)) w := by kernel_rfl
theorem nil_mix (a : Addr) (w : World) : (nilAhead 322 90 (.pointer (some a)) "Next").run Tryz.prog w = .ok (some false) w := by kernel_rfl
theorem met_mix (a : Addr) (w : World) : (method 322 90 (.pointer (some a)) "Next").run Tryz.prog w = .ok (117, .pointer (some a)) w := by kernel_rfl
theorem nil_thn (a : Addr) (w : World) : (nilAhead 322 95 (.pointer (some a)) "Next").run Tryz.prog w = .ok (some false) w := by kernel_rfl
theorem met_thn (a : Addr) (w : World) : (method 322 95 (.pointer (some a)) "Next").run Tryz.prog w = .ok (120, .pointer (some a)) w := by kernel_rfl
theorem ent_rd (args : Array Value) (w : World) : (callFunc 115 args).run Tryz.prog w = .ok (.enter 115 args) w := enters_of Tryz.func115 (by kernel_rfl) rfl args w
theorem ent_wr (args : Array Value) (w : World) : (callFunc 121 args).run Tryz.prog w = .ok (.enter 121 args) w := enters_of Tryz.func121 (by kernel_rfl) rfl args w
theorem ent_lim (args : Array Value) (w : World) : (callFunc 116 args).run Tryz.prog w = .ok (.enter 116 args) w := enters_of Tryz.func116 (by kernel_rfl) rfl args w
theorem ent_mix (args : Array Value) (w : World) : (callFunc 117 args).run Tryz.prog w = .ok (.enter 117 args) w := enters_of Tryz.func117 (by kernel_rfl) rfl args w
theorem ent_thn (args : Array Value) (w : World) : (callFunc 120 args).run Tryz.prog w = .ok (.enter 120 args) w := enters_of Tryz.func120 (by kernel_rfl) rfl args w

theorem met_of : ∀ {n : Nat} {w : World} {base : Nat} {v : Value} {g : Gt} {bs : List Nat}, GAt n w base v g bs → ∃ T x F, MetOk v T x F
  | 0, _, _, _, _, _, h => h.elim
  | _ + 1, _, _, _, .rd _, _, h => ⟨_, _, _, h.1, nil_rd _, met_rd _, ent_rd⟩
  | _ + 1, _, _, _, .wr _ _ _, _, h => ⟨_, _, _, h.1, nil_wr _ _ _, met_wr _ _ _, ent_wr⟩
  | _ + 1, _, _, _, .lim _ _, _, h => by
    obtain ⟨b, u, cs, h1, _⟩ := h
    exact ⟨_, _, _, h1, nil_lim _, met_lim _, ent_lim⟩
  | _ + 1, _, _, _, .mix _, _, h => by
    obtain ⟨b, g, cap, us, cs, h1, _⟩ := h
    exact ⟨_, _, _, h1, nil_mix _, met_mix _, ent_mix⟩
  | _ + 1, _, _, _, .thn _, _, h => by
    obtain ⟨b, r, g, us, cs, h1, _⟩ := h
    exact ⟨_, _, _, h1, nil_thn _, met_thn _, ent_thn⟩
theorem MetOk.one {v : Value} {T S : TypeId} {x y : Value} {F G : FuncId} (h : MetOk v T x F) (k : MetOk v S y G) : S = T ∧ y = x ∧ G = F := by
  have e := k.shape.symm.trans h.shape
  injection e with e1 e2
  subst e1 e2
  have e3 := (k.met default).symm.trans (h.met default)
  injection e3 with e3 _
  injection e3 with e3 _
  exact ⟨rfl, rfl, e3⟩

theorem clV_form (c : Option Cl) : ∃ q k v, clA c = .agg #[.bool q, .int .i64 k, .int .i64 v] := by
  cases c with
  | none => exact ⟨_, _, _, rfl⟩
  | some c => exact ⟨_, _, _, rfl⟩

/-- All generators of a height: what next gives. -/
def AllNx (n : Nat) : Prop := ∀ (base B o : Nat) (t : Tp) (w : World) (v : Value) (g : Gt) (bs : List Nat), GAt n w base v g bs → TpAt w base B o t → B ∉ bs → t.u + wtF n g ≤ 1000000000 → ∀ T x F, MetOk v T x F → Calls Tryz.prog F #[x, .pointer (some ⟨B, o, none⟩)] w (NxTold n base B o t w v g bs)

set_option maxHeartbeats 4000000 in
set_option maxRecDepth 100000 in
theorem limit_next {n : Nat} (ih : AllNx n) (base B o b : Nat) (t : Tp) (w : World) (g : Gt) (left : Nat) (bs : List Nat) (h : GAt (n + 1) w base (.iface 87 (.pointer (some ⟨b, 0, none⟩))) (.lim g left) bs) (ht : TpAt w base B o t) (hB : B ∉ bs) (hu : t.u + wtF n g ≤ 1000000000) :
    Calls Tryz.prog 116 #[.pointer (some ⟨b, 0, none⟩), .pointer (some ⟨B, o, none⟩)] w (NxTold (n + 1) base B o t w (.iface 87 (.pointer (some ⟨b, 0, none⟩))) (.lim g left) bs) := by
  have HH := hideIt h
  have HT := hideIt ht
  obtain ⟨b', u, cs, e1, rfl, h2, h3, h4, h5, h6, h7, h8⟩ := h
  cases e1
  have HG := hideIt h8
  obtain ⟨T, x, F, hM⟩ := met_of h8
  have hsh := hM.shape
  subst hsh
  have hnil := hM.nil
  have hmet := hM.met
  have hent := hM.ent
  have HM := hideIt hM
  have hBb : B ≠ b := fun e => hB (by simp [e])
  have hBc : B ∉ cs := fun e => hB (by simp [e])
  have hblt : b < w.heap.size := World.block_lt_of_cell? w _ h4
  have hBlt := ht.lt
  clear h8 ht hM
  cases left with
  | zero =>
    have HN : Hid (nextF (n + 1) (.lim g 0) t = ⟨none, .lim g 0, t⟩) := hideIt (by simp [nextF])
    have hr := heap_new w (.cells #[.bool false, .int .i64 0, .int .i64 0] 51)
    have hfr : Fr [] w (w.alloc (.cells #[.bool false, .int .i64 0, .int .i64 0] 51)) := Fr.alloc _ _ _
    have HF := hideIt hfr
    have HR := hideIt hr
    clear hfr hr
    go_enter Tryz.func116, Tryz.ntmps116
    go_wp2
    obtain ⟨z0, z1, z2⟩ := blk3 HR.out
    have hF2 := HF.out
    exact bodyPost_ret (results_two rfl _ _ _ _ rfl (loadCl z0 z1 z2)) rfl ⟨by rw [HN.out]; rfl, by rw [HN.out]; exact HT.out.fr hF2 (by simp) (by simp), by rw [HN.out]; exact ⟨_, HH.out.fr hF2 (by simp), fun _ h => h⟩, hF2.more (by simp), fun p hp _ => oth_of hF2 hBlt (by simp) p hp⟩
  | succ k =>
    have HN : Hid (nextF (n + 1) (.lim g (k + 1)) t = ⟨(nextF n g t).c, .lim (nextF n g t).g k, (nextF n g t).t⟩) := hideIt (by simp [nextF])
    have hne : (((k + 1 : Nat) : Int) == 0) = false := by simp; omega
    have HF1 : Hid (Fr [b] w ((w.setCell ⟨b, 1, none⟩ (.int .i64 (k : Nat))).alloc (.cells #[.bool false, .int .i64 0, .int .i64 0] 51))) := (Fr.set w ⟨b, 1, none⟩ _ (by simp)).trans (Fr.alloc _ _ _)
    have HC1 : Hid (((w.setCell ⟨b, 1, none⟩ (.int .i64 (k : Nat))).alloc (.cells #[.bool false, .int .i64 0, .int .i64 0] 51)).cell? ⟨b, 1, none⟩ = some (.int .i64 (k : Nat))) := (World.cell?_alloc_lt _ _ _ (by simpa [World.setCell] using hblt)).trans (World.cell?_setCell_same' _ _ _ (by rw [h5]; rfl))
    have HC0 : Hid (((w.setCell ⟨b, 1, none⟩ (.int .i64 (k : Nat))).alloc (.cells #[.bool false, .int .i64 0, .int .i64 0] 51)).cell? ⟨b, 0, none⟩ = some (.iface T x)) := (World.cell?_alloc_lt _ _ _ (by simpa [World.setCell] using hblt)).trans ((World.cell?_setCell_other _ _ _ _ (offN (by omega))).trans h4)
    have HZ1 : Hid (((w.setCell ⟨b, 1, none⟩ (.int .i64 (k : Nat))).alloc (.cells #[.bool false, .int .i64 0, .int .i64 0] 51)).frozen? ⟨b, 1, none⟩ = false) := by
      show _ = _
      rw [World.frozen?_alloc_old _ _ _ (Nat.ne_of_lt (by simpa [World.setCell] using hblt)), frozen_setCell]; exact h6
    have HR1 : Hid (((w.setCell ⟨b, 1, none⟩ (.int .i64 (k : Nat))).alloc (.cells #[.bool false, .int .i64 0, .int .i64 0] 51)).heap[w.heap.size]? = some (.cells #[.bool false, .int .i64 0, .int .i64 0] 51)) := by
      have := heap_new (w.setCell ⟨b, 1, none⟩ (.int .i64 (k : Nat))) (.cells #[.bool false, .int .i64 0, .int .i64 0] 51)
      rw [show (w.setCell ⟨b, 1, none⟩ (.int .i64 (k : Nat))).heap.size = w.heap.size by simp [World.setCell]] at this
      exact this
    have HS1 : Hid (((w.setCell ⟨b, 1, none⟩ (.int .i64 (k : Nat))).alloc (.cells #[.bool false, .int .i64 0, .int .i64 0] 51)).heap.size = w.heap.size + 1) := by show _ = _; simp [World.setCell]
    go_enter Tryz.func116, Tryz.ntmps116
    go_wp2_with fail
    generalize (w.setCell ⟨b, 1, none⟩ (.int .i64 (k : Nat))).alloc (.cells #[.bool false, .int .i64 0, .int .i64 0] 51) = W1 at *
    have hT1 := HT.out.fr HF1.out (by simp [hBb]) (by simp [h2])
    have hG1 := HG.out.fr HF1.out (fun c hc e => by simp at e; exact h3 (e ▸ hc))
    refine (ih base B o t W1 _ g cs hG1 hT1 hBc hu T x F HM.out).mono ?_
    rintro y W2 ⟨rfl, hT2, ⟨cs', hG2, hcs⟩, hF2, hO2⟩
    obtain ⟨q, kk, vv, hcl⟩ := clV_form (nextF n g t).c
    have hBW := hT1.lt
    have hno : ∀ y ∈ B :: cs, y ≠ w.heap.size := fun y hy e => by
      subst e
      rcases List.mem_cons.1 hy with e | e
      · omega
      · have := (HG.out.in_ _ e).2; omega
    have hbn : b ∉ B :: cs := by simp [h3, Ne.symm hBb]
    have hs1 := HS1.out
    have hbk2 := hF2.block b (by omega) hbn
    have hr2 := (hF2.block w.heap.size (by omega) (fun e => hno _ e rfl)).trans HR1.out
    obtain ⟨z0, z1, z2⟩ := blk3 hr2
    have f0 := frozen_of_row W2 w.heap.size 0 _ 51 hr2
    have f1 := frozen_of_row W2 w.heap.size 1 _ 51 hr2
    have f2 := frozen_of_row W2 w.heap.size 2 _ 51 hr2
    have HT2 := hideIt hT2
    have HG2 := hideIt hG2
    have HF2 := hideIt hF2
    have HO2 := hideIt hO2
    have HC2 := hideIt hcl
    have HBK := hideIt hbk2
    unfold clV
    rw [hcl]
    generalize hok : (nextF n g t).c.isSome = ok
    have HOk := hideIt hok
    clear hT1 hG1 hT2 hG2 hF2 hO2 hcl hbk2 hr2 hok
    go_wp2
    change bodyPost _ _ _ _ _ (set3 W2 w.heap.size (.bool q) (.int .i64 kk) (.int .i64 vv))
    have hld := load_set3 (a := .bool q) (b := .int .i64 kk) (c := .int .i64 vv) z0 z1 z2
    have hF02 : Fr (B :: b :: cs) w W2 := (HF1.out.more (by simp)).trans (HF2.out.more (fun y hy => .inl (by simp at hy ⊢; rcases hy with h | h <;> simp [h])))
    have hFs := fr_set3 hF02 (Nat.le_refl _) (.bool q) (.int .i64 kk) (.int .i64 vv)
    have hF3 := fr_set3' W2 w.heap.size (.bool q) (.int .i64 kk) (.int .i64 vv)
    have hOs := oth_set3 W2 w.heap.size (.bool q) (.int .i64 kk) (.int .i64 vv)
    have hbs := w.heap.size
    have hlo := HT.out.lo
    generalize set3 W2 w.heap.size (.bool q) (.int .i64 kk) (.int .i64 vv) = W3 at *
    have hb3 : W3.heap[b]? = W1.heap[b]? := (hF3.block b (Nat.lt_of_lt_of_le hblt hF02.size) (by simp; omega)).trans HBK.out
    refine bodyPost_ret (results_two rfl _ _ _ _ rfl hld) rfl ⟨?_, ?_, ?_, hFs, ?_⟩
    · rw [HN.out]
      show Ending.returned _ = .returned (.tuple #[clA (nextF n g t).c, .bool (nextF n g t).c.isSome])
      rw [HC2.out, HOk.out]
      rfl
    · rw [HN.out]
      exact HT2.out.fr hF3 (by simp; omega) (by simp; omega)
    · rw [HN.out]
      refine ⟨b :: cs', ⟨b, .iface T x, cs', rfl, rfl, h2, fun e => h3 (hcs b e), (World.cell?_of_block (a := ⟨b, 0, none⟩) hb3).trans HC0.out, (World.cell?_of_block (a := ⟨b, 1, none⟩) hb3).trans HC1.out, (World.frozen?_of_block (a := ⟨b, 1, none⟩) hb3).trans HZ1.out, by omega, HG2.out.fr hF3 (fun c hc e => ?_)⟩, fun c hc => ?_⟩
      · simp at e
        have := (HG.out.in_ c (hcs c hc)).2
        omega
      · rcases List.mem_cons.1 hc with h | h
        · simp [h]
        · simp [hcs c h]
    · intro p hp hq
      obtain ⟨a1, a2⟩ := hOs p (by rw [hp]; omega)
      obtain ⟨b1, b2⟩ := HO2.out p hp hq
      obtain ⟨c1, c2⟩ := oth_of HF1.out hBlt (by simp [hBb]) p hp
      exact ⟨a1.trans (b1.trans c1), a2.trans (b2.trans c2)⟩
end Go.Proofs.YthblokfiojccmaaGreatDoor.Gn
