/-
  Package clock's sources, walked.
-/
import Derived.Test.YtmonbkoelehdlaaDoorTabM
namespace Go.Proofs.YtmonbkoelehdlaaDoor
open Go.RowKit
open Go.Maps (int_keyed)

theorem MapN.plain {w : World} {M n : Nat} {f : Int → Option Int} (h : MapN w M n f) {q b : Int} (hq : (Lit.int .i64 q).wf = true) (hf : f q = some b) :
    (Instr.lookup 69 (.map (some M)) (.int .i64 q) false).run Tryd.prog w = .ok (.int .i64 b) w := by
  obtain ⟨D, h1, h2⟩ := h
  obtain ⟨v, ps, hrun, hv⟩ := h1.lookup (int_keyed Tryd.underlying3) Tryd.underlying69 (zeroInt w) (zd := .held (.int .i64 0)) (zp := []) rfl (Go.Maps.keyOf_int_mk Tryd.underlying3 hq)
  rw [h2.at_ q b hf] at hv
  have := DataW.held.inj (congrArg Prod.fst (Option.some.inj hv))
  subst this
  exact hrun
theorem MapN.get {w : World} {M n : Nat} {f : Int → Option Int} (h : MapN w M n f) {q : Int} (hq : (Lit.int .i64 q).wf = true) :
    (Instr.lookup 69 (.map (some M)) (.int .i64 q) true).run Tryd.prog w = .ok (.tuple #[.int .i64 ((f q).getD 0), .bool (f q).isSome]) w := by
  cases hf : f q with
  | none => exact MapV.look_none Tryd.underlying3 h Tryd.underlying69 (zeroInt w) hq hf
  | some b =>
    obtain ⟨v, hrun, hv⟩ := MapV.look Tryd.underlying3 h Tryd.underlying69 (zeroInt w) hq
    rw [hf] at hrun
    rw [hv b hf] at hrun
    exact hrun
theorem wpList_get_n (w : World) {ops : Array Oper} {rest : List Oper} {o : Oper} {a : Act} {Q : Exit → Act → World → Prop} (hg : o.guard = none) (m x : Operand) (hop : o.op = Op.lookup 69 m x true) (M n : Nat) (f : Int → Option Int)
    (hm : a.eval m = .map (some M)) (h : MapN w M n f) (q : Int) (hx : a.eval x = .int .i64 q) (hq : (Lit.int .i64 q).wf = true) (c : Int) (b : Bool) (hc : (f q).getD 0 = c) (hb : (f q).isSome = b)
    (hK : wpList Tryd.prog ops Q rest (a.put o.dst (.tuple #[.int .i64 c, .bool b])) w) :
    wpList Tryd.prog ops Q (o :: rest) a w := by
  refine wpList_plain hg fun K' hK' => ?_
  have hrun := h.get hq
  rw [hc, hb] at hrun
  unfold Oper.wp
  simp [execOp, hop, hm, hx, hrun, Result.andThen]
  exact hK' _ _ hK
theorem MapN.ne {w : World} {M n b : Nat} {f : Int → Option Int} {cur : Array Value} {t : TypeId} {fr : Nat × Nat} (h : MapN w M n f) (hb : w.heap[b]? = some (.cells cur t fr)) : M ≠ b := by
  rintro rfl
  obtain ⟨D, ⟨es, clock, hb1, _⟩, _⟩ := h
  rw [hb1] at hb
  cases hb
theorem grown_set (w : World) (T q : Nat) (x : Value) : w.grownBy (w.setCell ⟨T, q, none⟩ x) (some T) := grown_setCells T [x] q w

theorem wpList_append_run {P : Program} (w : World) {ops : Array Oper} {rest : List Oper} {o : Oper} {a : Act} {Q : Exit → Act → World → Prop} (hgd : o.guard = none) (s x : Operand) (t : TypeId)
    (ho : o.op = .call { callee := .builtin .append, args := #[s, x], argTypes := #[t, t] }) (v xv v' : Value) (w' : World) (hs : a.eval s = v) (hx : a.eval x = xv) (hr : (Builtin.append_ #[t, t] o.type #[v, xv]).run P w = .ok v' w')
    (hK : wpList P ops Q rest (a.put o.dst v') w') : wpList P ops Q (o :: rest) a w := by
  refine wpList_plain hgd fun K' hK' => ?_
  unfold Oper.wp execOp
  simp only [ho, resolve, invoke, builtin, Sem.run_bind, Sem.run_pure, Result.andThen_ok, List.map_toArray, List.map_cons, List.map_nil, hs, hx, hr]
  exact hK' _ _ hK
theorem step_append_run {P : Program} {ops : Array Oper} {o : Oper} {a : Act} {w : World} {K : Act → World → Prop} {Q : Exit → Act → World → Prop} {E : Prop} (hgd : o.guard = none) (s x : Operand) (t : TypeId)
    (ho : o.op = .call { callee := .builtin .append, args := #[s, x], argTypes := #[t, t] }) (v xv v' : Value) (w' : World) (hs : a.eval s = v) (hx : a.eval x = xv) (hr : (Builtin.append_ #[t, t] o.type #[v, xv]).run P w = .ok v' w')
    (hK : K (a.put o.dst v') w') : if Region.wanted o (yielded ops a.tmps) = true then Oper.wp P o a w K Q else E := by
  have hw : Region.wanted o (yielded ops a.tmps) = true := by simp [Region.wanted, hgd]
  rw [if_pos hw]
  unfold Oper.wp execOp
  simp only [ho, resolve, invoke, builtin, Sem.run_bind, Sem.run_pure, Result.andThen_ok, List.map_toArray, List.map_cons, List.map_nil, hs, hx, hr]
  exact hK

/-- What is laid of what comes straight ahead. -/
def srcL (l : List Stp) (k : Nat) (r : List Nat) (q : Nat) : List Nat := if q < k then predC l q else if q = k then r else []
def SoTab (l : List Stp) (w wr : World) (k : Nat) (r : List Nat) (vs : Nat → Value) : Prop := TabN wr w.heap.size w.heap.size 29 3 1 l.length vs (fun q => intV (srcL l k r q)) (fun q => (srcL l k r q).length)
theorem srcL_next (l : List Stp) (k q : Nat) : srcL l k (predC l k) q = srcL l (k + 1) [] q := by
  unfold srcL
  by_cases h1 : q < k
  · rw [if_pos h1, if_pos (by omega)]
  · by_cases h2 : q = k
    · subst h2; rw [if_neg h1, if_pos rfl, if_pos (by omega)]
    · rw [if_neg h1, if_neg h2, if_neg (by omega)]; split <;> rfl
theorem SoTab.next {l : List Stp} {w wr : World} {k : Nat} {vs : Nat → Value} (h : SoTab l w wr k (predC l k) vs) : SoTab l w wr (k + 1) [] vs :=
  TabN.same h fun q _ => by rw [srcL_next]; exact ⟨rfl, rfl⟩
theorem srcL_own (l : List Stp) (k : Nat) (r : List Nat) : srcL l k r k = r := by
  unfold srcL
  rw [if_neg (by omega), if_pos rfl]
theorem srcL_put (l : List Stp) (k : Nat) (r r' : List Nat) (q : Nat) : (if q = k then r' else srcL l k r q) = srcL l k r' q := by
  unfold srcL
  by_cases h : q = k
  · subst h; rw [if_pos rfl, if_neg (by omega), if_pos rfl]
  · rw [if_neg h, if_neg h, if_neg h]
theorem SoTab.add {l : List Stp} {w wr w' : World} {k : Nat} {r : List Nat} {vs : Nat → Value} {j n : Nat} {x : Value} (h : SoTab l w wr k r vs) (hk : k < l.length) (hn : n = r.length + 1) (ho : w'.ownsRow w.heap.size 3 1 x n (intV (r ++ [j]))) (hg : wr.grownBy w' (vs k).ownBlock) (hob : x.ownBlock = (vs k).ownBlock ∨ x.ownBlock = some wr.heap.size) :
    SoTab l w (w'.setCell ⟨w.heap.size, k, none⟩ x) k (r ++ [j]) (setT vs k x) := by
  subst hn
  refine TabN.same ((TabN.grow h hk ho hg hob).put hk) fun q hq => ?_
  have e := srcL_put l k r (r ++ [j]) q
  constructor
  · show (if q = k then intV (r ++ [j]) else intV (srcL l k r q)) = _
    rw [← e]; split <;> rfl
  · show (if q = k then r.length + 1 else (srcL l k r q).length) = _
    rw [← e]; split <;> simp

set_option maxRecDepth 100000 in
set_option maxHeartbeats 4000000 in
theorem sources_any (l : List Stp) (a : Option Addr) (cap : Nat) (w : World) (h40 : l.length ≤ 40) (hfine : ∀ k, k < l.length → fltC l k = 0) (hl : StpsQ w a l) :
    Calls Tryd.prog 27 #[.slice a l.length cap] w fun e w' => ∃ vs, e = .returned (.slice (some ⟨w.heap.size, 0, none⟩) l.length l.length) ∧ SoTab l w w' l.length [] vs ∧ Below w.heap.size w w' := by
  have HL := hideIt hl
  have HFine := hideIt hfine
  clear hl hfine
  have hmk := made65 w l.length (by omega)
  have HT0 : Hid (SoTab l w ((((w.alloc (.cells (madeCells #[.slice none 0 0] l.length) 29)).alloc (.map #[] 0)).alloc (.map #[] 0))) 0 [] (fun _ => .slice none 0 0)) :=
    TabN.same (((tab65 w l.length).alloc _).alloc _) fun q _ => by unfold srcL; rw [if_neg (by omega)]; split <;> exact ⟨rfl, rfl⟩
  have HM1 : Hid (MapN (((w.alloc (.cells (madeCells #[.slice none 0 0] l.length) 29)).alloc (.map #[] 0)).alloc (.map #[] 0)) (w.heap.size + 1) 0 (lastM l 0)) := by
    have := MapV.alloc (mapV_made (w.alloc (.cells (madeCells #[.slice none 0 0] l.length) 29)) Tryd.prog (fun b : Int => .int .i64 b)) (.map #[] 0)
    rw [World.size_alloc] at this
    exact this
  have HM2 : Hid (MapN (((w.alloc (.cells (madeCells #[.slice none 0 0] l.length) 29)).alloc (.map #[] 0)).alloc (.map #[] 0)) (w.heap.size + 1 + 1) 0 (sendM l 0)) := by
    have := mapV_made ((w.alloc (.cells (madeCells #[.slice none 0 0] l.length) 29)).alloc (.map #[] 0)) Tryd.prog (fun b : Int => .int .i64 b)
    rw [World.size_alloc, World.size_alloc] at this
    exact this
  have HB0 : Hid (Below w.heap.size w (((w.alloc (.cells (madeCells #[.slice none 0 0] l.length) 29)).alloc (.map #[] 0)).alloc (.map #[] 0))) := belA (belA (belA (Below.refl _ _) _) _) _
  go_enter Tryd.func27, Tryd.ntmps27
  have hmm := @run_makeMap Tryd.prog
  go_wp2
  clear hmm hmk
  generalize ((w.alloc _).alloc _).alloc _ = W at HT0 HM1 HM2 HB0 ⊢
  go_loopw [17] (fun i wr => ∃ (k : Nat) (vs : Nat → Value), k ≤ l.length ∧ i = .int .i64 k ∧ SoTab l w wr k [] vs ∧ MapN wr (w.heap.size + 1) k (lastM l k) ∧ MapN wr (w.heap.size + 1 + 1) k (sendM l k) ∧ Below w.heap.size w wr) (fun i _ => l.length - (intOf i).toNat)
  case atStart => exact ⟨0, _, Nat.zero_le _, rfl, HT0.out, HM1.out, HM2.out, HB0.out⟩
  case round =>
    clear HT0 HM1 HM2 HB0
    obtain ⟨k, vs, hk, rfl, ht, hm1, hm2, hb⟩ := hrel
    have HT := hideIt ht
    have HM1 := hideIt hm1
    have HM2 := hideIt hm2
    have HB := hideIt hb
    clear ht hm1 hm2 hb
    by_cases hkl : k < l.length
    · obtain ⟨b, off, rfl, hlt, hst⟩ : ∃ b off, a = some ⟨b, off, none⟩ ∧ b < w.heap.size ∧ StpsAt w b off l := by
        rcases HL.out with h | h
        · subst h; simp at hkl
        · exact h
      obtain ⟨c0, c1, c2⟩ := (hst k hkl).below hlt HB.out
      have HX : Hid (stZ l k = l[k]) := stZ_at hkl
      have hnum := step_num HFine.out hkl
      rw [HX.out] at hnum
      generalize l[k] = x at c0 c1 c2 HX hnum
      have HN := hideIt hnum
      clear hst HL hnum
      have hwp : (Lit.int .i64 x.p).wf = true := wf_of (by have := HN.out; omega)
      have hwm : (Lit.int .i64 x.m).wf = true := wf_of (by have := HN.out; omega)
      have hTl : w.heap.size < wr.heap.size := HT.out.tab.lt
      have hMl : w.heap.size + 1 + 1 < wr.heap.size := MapV.lt HM2.out
      obtain ⟨pb, HPB⟩ : ∃ pb, Hid ((lastM l k x.p).isSome = pb) := ⟨_, hideIt rfl⟩
      obtain ⟨pc, HPC⟩ : ∃ pc, Hid ((lastM l k x.p).getD 0 = pc) := ⟨_, hideIt rfl⟩
      go_upto_if 29 with (at_lookup; refine wpList_get_n _ rfl _ _ rfl _ _ _ rfl (MapV.alloc HM1.out _) _ rfl hwp pc pb HPC.out HPB.out ?_)
      have HS : Hid (StpAt (wr.alloc (.cells #[.int .i64 x.p, .int .i64 x.k, .int .i64 x.m] 63)) wr.heap.size 0 x) := ⟨by simp, by simp, by simp⟩
      go_cut [] (fun wx => ∃ vs', SoTab l w wx k (prevC l k).toList vs' ∧ MapN wx (w.heap.size + 1) k (lastM l k) ∧ MapN wx (w.heap.size + 1 + 1) k (sendM l k) ∧ StpAt wx wr.heap.size 0 x ∧ Below w.heap.size w wx ∧ wr.heap.size < wx.heap.size)
      case first =>
        clear c0 c1 c2
        have HP : Hid (lastM l k x.p = (prevC l k).map fun n : Nat => (n : Int)) := by show lastM l k x.p = _; unfold prevC; rw [HX.out]; rfl
        cases hp : prevC l k with
        | none =>
          have e : pb = false := by rw [← HPB.out, HP.out, hp]; rfl
          subst e
          clear HPB HPC
          have R1 : Hid (SoTab l w (wr.alloc (.cells #[.int .i64 x.p, .int .i64 x.k, .int .i64 x.m] 63)) k [] vs) := TabN.alloc HT.out _
          go_wp2
          go_meet
          exact ⟨vs, by rw [hp]; exact R1.out, MapV.alloc HM1.out _, MapV.alloc HM2.out _, HS.out, belA HB.out _, by simp⟩
        | some j =>
          have e : pb = true := by rw [← HPB.out, HP.out, hp]; rfl
          have e2 : pc = (j : Int) := by rw [← HPC.out, HP.out, hp]; rfl
          subst e e2
          clear HPB HPC
          have hTA : SoTab l w ((wr.alloc (.cells #[.int .i64 x.p, .int .i64 x.k, .int .i64 x.m] 63)).alloc (.cells #[.int .i64 (j : Int)] 3)) k [] vs := TabN.alloc (TabN.alloc HT.out _) _
          have hrow := hTA.rows k hkl
          rw [srcL_own] at hrow
          obtain ⟨n1, w6, hr6, ho6, hg6, hob6⟩ := run_appI (B := wr.heap.size + 1) (x := j) hrow (by simp) (by simp; omega) (by simp) 29
          have hc : ((wr.alloc (.cells #[.int .i64 x.p, .int .i64 x.k, .int .i64 x.m] 63))).cell? ⟨w.heap.size, k, none⟩ = some (vs k) := (TabN.alloc HT.out _).tab.cell hkl
          have hfin := hTA.add hkl (j := j) rfl (by simpa using ho6) hg6 hob6
          have hmid := TabN.grow hTA hkl ho6 hg6 hob6
          have z0 := hmid.tab.cell hkl
          have z1 := hmid.tab.fz k
          have hMc1 := MapV.kept (MapV.kept (MapV.alloc (MapV.alloc HM1.out _) _) hg6 (fun e => MapN.ne (MapV.alloc (MapV.alloc HM1.out _) _) (ownsRow_block hrow _ e.symm).2.2.choose_spec rfl)) (grown_set w6 w.heap.size k n1) (by simp)
          have hMc2 := MapV.kept (MapV.kept (MapV.alloc (MapV.alloc HM2.out _) _) hg6 (fun e => MapN.ne (MapV.alloc (MapV.alloc HM2.out _) _) (ownsRow_block hrow _ e.symm).2.2.choose_spec rfl)) (grown_set w6 w.heap.size k n1) (by simp; omega)
          have hBc : Below w.heap.size w (w6.setCell ⟨w.heap.size, k, none⟩ n1) := ((belA (belA HB.out _) _).grown hg6 (by simp; omega) (fun b hbk => (ownsRow_block hrow b hbk).1)).setCell (Nat.le_refl _) _
          have hsz : wr.heap.size < (w6.setCell ⟨w.heap.size, k, none⟩ n1).heap.size := by
            have h1 := hg6.size
            have h2 := (grown_set w6 w.heap.size k n1).size
            simp at h1
            omega
          have hown : (vs k).ownBlock ≠ some wr.heap.size := fun e => by
            have := (ownsRow_block (HT.out.rows k hkl) _ e).2.1
            omega
          have hSc : StpAt (w6.setCell ⟨w.heap.size, k, none⟩ n1) wr.heap.size 0 x := by
            have hblk : (w6.setCell ⟨w.heap.size, k, none⟩ n1).heap[wr.heap.size]? = (wr.alloc (.cells #[.int .i64 x.p, .int .i64 x.k, .int .i64 x.m] 63)).heap[wr.heap.size]? := by
              rw [(grown_set w6 w.heap.size k n1).block wr.heap.size (by have := hg6.size; simp at this; omega) (by simp; omega), hg6.block wr.heap.size (by simp; omega) (Ne.symm hown)]
              exact Below.heap_alloc _ _ _ (by simp)
            exact ⟨(World.cell?_of_block (a := ⟨wr.heap.size, 0, none⟩) hblk).trans HS.out.1, (World.cell?_of_block (a := ⟨wr.heap.size, 0 + 1, none⟩) hblk).trans HS.out.2.1, (World.cell?_of_block (a := ⟨wr.heap.size, 0 + 2, none⟩) hblk).trans HS.out.2.2⟩
          have HEnd : Hid (∃ vs', SoTab l w (w6.setCell ⟨w.heap.size, k, none⟩ n1) k (prevC l k).toList vs' ∧ MapN (w6.setCell ⟨w.heap.size, k, none⟩ n1) (w.heap.size + 1) k (lastM l k) ∧ MapN (w6.setCell ⟨w.heap.size, k, none⟩ n1) (w.heap.size + 1 + 1) k (sendM l k) ∧ StpAt (w6.setCell ⟨w.heap.size, k, none⟩ n1) wr.heap.size 0 x ∧ Below w.heap.size w (w6.setCell ⟨w.heap.size, k, none⟩ n1) ∧ wr.heap.size < (w6.setCell ⟨w.heap.size, k, none⟩ n1).heap.size) := ⟨_, by rw [hp]; exact hfin, hMc1, hMc2, hSc, hBc, hsz⟩
          have HR6 := hideIt hr6
          obtain ⟨na, nc, hn1⟩ := ownsRow_slice ho6
          have hw6 : w.heap.size < w6.heap.size := hmid.tab.lt
          clear hrow hTA ho6 hg6 hob6 hfin hmid hMc1 hMc2 hBc hsz hown hSc hr6 HS hp
          subst hn1
          go_wp2_with (at_builtin; refine wpList_append_run _ rfl _ _ 29 rfl _ _ _ w6 rfl rfl HR6.out ?_)
          go_meet
          exact HEnd.out
      case rest =>
        obtain ⟨vs', ht, hm1, hm2, ⟨d0, d1, d2⟩, hb, hsz⟩ := hcut
        rw [Nat.zero_add] at d1 d2
        have HT2 := hideIt ht
        have HMa := hideIt hm1
        have HMb := hideIt hm2
        have HB2 := hideIt hb
        have HLs : Hid (lastM l (k + 1) = putK (lastM l k) x.p (some (k : Int))) := by show lastM l (k + 1) = _; rw [lastM_succ, HX.out]
        clear ht hm1 hm2 hb HT HM1 HM2 HB HPB HPC HS c0 c1 c2 hTl
        have HS3 : Hid (∀ w3, wc.grownBy w3 (some (w.heap.size + 1)) → SoTab l w w3 k (prevC l k).toList vs' ∧ MapN w3 (w.heap.size + 1 + 1) k (sendM l k) ∧ Below w.heap.size w w3 ∧ wr.heap.size < w3.heap.size ∧ (w3.cell? ⟨wr.heap.size, 1, none⟩ = some (.int .i64 x.k) ∧ w3.cell? ⟨wr.heap.size, 2, none⟩ = some (.int .i64 x.m))) := fun w3 hg3 => by
          have hblk := hg3.block wr.heap.size hsz (by simp; omega)
          have hne : ∀ (b' : Nat) (cur : Array Value) (t : TypeId), wc.heap[b']? = some (.cells cur t (0, 0)) → some b' ≠ some (w.heap.size + 1) := fun b' cur t hc e => MapN.ne HMa.out hc (Option.some.inj e).symm
          refine ⟨TabN.apart HT2.out hg3 ?_ ?_, MapV.kept HMb.out hg3 (by simp), HB2.out.grown hg3 (by have := HB2.out.size; omega) (fun b' hb' => by cases hb'; omega), Nat.lt_of_lt_of_le hsz hg3.size, (World.cell?_of_block (a := ⟨wr.heap.size, 1, none⟩) hblk).trans d1, (World.cell?_of_block (a := ⟨wr.heap.size, 2, none⟩) hblk).trans d2⟩
          · obtain ⟨cur, hc, _⟩ := HT2.out.tab
            exact hne _ _ _ hc
          · intro q hq b' hb'
            obtain ⟨_, _, cur, hc⟩ := ownsRow_block (HT2.out.rows q hq) b' hb'
            exact hne _ _ _ hc
        by_cases h3 : x.k = 3
        · have hfk := (fltM_zero (fltC_zero (HFine.out k hkl)).2).2 (by rw [HX.out]; exact h3)
          obtain ⟨j, hj⟩ : ∃ j, srcC l k = some j := by
            obtain ⟨i, hi, hs⟩ := sentB_iff.1 hfk.2
            unfold srcC
            rw [if_pos (by rw [HX.out]; exact h3)]
            rcases firstN_cases (sendB l (stZ l k).m) k with ⟨_, ha⟩ | ⟨j, _, h, _⟩
            · rw [ha i hi] at hs; cases hs
            · exact ⟨j, h⟩
          have HJ : Hid (sendM l k x.m = some (j : Int)) := by
            show sendM l k x.m = _
            rw [sendM_first (fun i hi => HFine.out i (by omega))]
            unfold srcC at hj
            rw [if_pos (by rw [HX.out]; exact h3), HX.out] at hj
            rw [hj]; rfl
          have R0 : Hid (predC l k = (prevC l k).toList ++ [j]) := by
            show predC l k = _
            unfold predC
            rw [hj]; rfl
          have R2 : Hid (sendM l (k + 1) = sendM l k) := by
            show (if (stZ l k).k = 2 then _ else _) = _
            rw [HX.out, if_neg (by omega)]
          have hr2 : (prevC l k).toList.length ≤ 1 := by cases prevC l k <;> simp
          clear hfk hj
          go_upto_region 14 with (at_mapUpdate; (refine wpList_store_v _ Tryd.underlying3 rfl _ _ _ _ rfl _ Tryd.underlying69 (w.heap.size + 1) _ _ rfl HMa.out (by omega) _ rfl hwp (k : Int) rfl ?_; intro w3 hm3 hg3; obtain ⟨ht3, hmb3, hb3, hsz3, e1, e2⟩ := HS3.out w3 hg3; have HT3 := hideIt ht3; have HMb3 := hideIt hmb3; have HMa3 := hideIt hm3; have HB3 := hideIt hb3; clear ht3 hmb3 hm3 hb3 hg3))
          have hlk : (Instr.lookup 69 (.map (some (w.heap.size + 1 + 1))) (.int .i64 x.m) false).run Tryd.prog w3.drew = .ok (.int .i64 (j : Int)) w3.drew := MapN.plain (MapV.drew HMb3.out) hwm HJ.out
          have hTA : SoTab l w (w3.alloc (.cells #[.int .i64 (j : Int)] 3)).drew k (prevC l k).toList vs' := TabN.drew (TabN.alloc HT3.out _)
          have hrow := hTA.rows k hkl
          rw [srcL_own] at hrow
          have hs3 : (w3.alloc (.cells #[.int .i64 (j : Int)] 3)).drew.heap.size = w3.heap.size + 1 := by
            show (w3.alloc (.cells #[.int .i64 (j : Int)] 3)).heap.size = _
            simp
          obtain ⟨n1, w6, hr6, ho6, hg6, hob6⟩ := run_appI (B := w3.heap.size) (x := j) hrow (by
            have e : (w3.alloc (.cells #[.int .i64 (j : Int)] 3)).drew.heap[w3.heap.size]? = some (.cells #[.int .i64 (j : Int)] 3 (0, 0)) := heap_alloc_new w3 _
            exact cell_of_row _ _ _ _ 3 (0, 0) e) (by rw [hs3]; have := HB3.out.size; omega) (by omega) 29
          have hc : w3.cell? ⟨w.heap.size, k, none⟩ = some (vs' k) := HT3.out.tab.cell hkl
          have hfin := hTA.add hkl (j := j) rfl ho6 hg6 hob6
          have hmid := TabN.grow hTA hkl ho6 hg6 hob6
          have z0 := hmid.tab.cell hkl
          have z1 := hmid.tab.fz k
          have hMc1 := MapV.kept (MapV.kept (MapV.drew (MapV.alloc HMa3.out _)) hg6 (fun e => MapN.ne (MapV.drew (MapV.alloc HMa3.out _)) (ownsRow_block hrow _ e.symm).2.2.choose_spec rfl)) (grown_set w6 w.heap.size k n1) (by simp)
          have hMc2 := MapV.kept (MapV.kept (MapV.drew (MapV.alloc HMb3.out _)) hg6 (fun e => MapN.ne (MapV.drew (MapV.alloc HMb3.out _)) (ownsRow_block hrow _ e.symm).2.2.choose_spec rfl)) (grown_set w6 w.heap.size k n1) (by simp; omega)
          have hBc : Below w.heap.size w (w6.setCell ⟨w.heap.size, k, none⟩ n1) := ((belA HB3.out _).drew.grown hg6 (by rw [hs3]; have := HB3.out.size; omega) (fun b hbk => (ownsRow_block hrow b hbk).1)).setCell (Nat.le_refl _) _
          rw [← R0.out] at hfin
          have HEnd : Hid (∃ vs', SoTab l w (w6.setCell ⟨w.heap.size, k, none⟩ n1) (k + 1) [] vs' ∧ MapN (w6.setCell ⟨w.heap.size, k, none⟩ n1) (w.heap.size + 1) (k + 1) (lastM l (k + 1)) ∧ MapN (w6.setCell ⟨w.heap.size, k, none⟩ n1) (w.heap.size + 1 + 1) (k + 1) (sendM l (k + 1)) ∧ Below w.heap.size w (w6.setCell ⟨w.heap.size, k, none⟩ n1)) := ⟨_, hfin.next, by rw [HLs.out]; exact hMc1, by rw [R2.out]; exact MapV.mono hMc2 (by omega), hBc⟩
          have HR6 := hideIt hr6
          obtain ⟨na, nc, hn1⟩ := ownsRow_slice ho6
          have hw6 : w.heap.size < w6.heap.size := hmid.tab.lt
          have hw3 : w.heap.size < w3.heap.size := HT3.out.tab.lt
          clear hrow hTA ho6 hg6 hob6 hfin hmid hMc1 hMc2 hBc hr6
          subst hn1
          have hx1 : ¬ w.heap.size = w3.heap.size := by omega
          have hx2 : ¬ w3.heap.size = w.heap.size := by omega
          have hx3 : ¬ wr.heap.size = w3.heap.size := by omega
          have hx4 : ¬ w3.heap.size = wr.heap.size := by omega
          go_region_law (refine step_append_run (by rfl) _ _ 29 (by rfl) _ _ _ w6 (by rfl) (by rfl) HR6.out ?_)
          all_goals
            go_wp2
            go_roundw
            case rel =>
              obtain ⟨vs2, q1, q2, q3, q4⟩ := HEnd.out
              exact ⟨k + 1, vs2, by omega, by go_num, q1, q2, q3, q4⟩
            case measure => simp [intOf]; omega
        · have R0 : Hid (predC l k = (prevC l k).toList) := by
            show predC l k = _
            unfold predC srcC
            rw [HX.out, if_neg h3]
            simp
          by_cases h2 : x.k = 2
          · have R2 : Hid (sendM l (k + 1) = putK (sendM l k) x.m (some (k : Int))) := by
              show (if (stZ l k).k = 2 then _ else _) = _
              rw [HX.out, if_pos h2]
            go_wp2_with (at_mapUpdate; first | (refine wpList_store_v _ Tryd.underlying3 rfl _ _ _ _ rfl _ Tryd.underlying69 (w.heap.size + 1) _ _ rfl HMa.out (by omega) _ rfl hwp (k : Int) rfl ?_; intro w3 hm3 hg3; obtain ⟨ht3, hmb3, hb3, hsz3, e1, e2⟩ := HS3.out w3 hg3; have HT3 := hideIt ht3; have HMb3 := hideIt hmb3; have HMa3 := hideIt hm3; have HB3 := hideIt hb3; clear ht3 hmb3 hm3 hb3 hg3) | (refine wpList_store_v _ Tryd.underlying3 rfl _ _ _ _ rfl _ Tryd.underlying69 (w.heap.size + 1 + 1) _ _ rfl HMb3.out (by omega) _ rfl hwm (k : Int) rfl ?_; intro w4 hm4 hg4))
            have hne : ∀ (b' : Nat) (cur : Array Value) (t : TypeId), w3.heap[b']? = some (.cells cur t (0, 0)) → some b' ≠ some (w.heap.size + 1 + 1) := fun b' cur t hc e => MapN.ne HMb3.out hc (Option.some.inj e).symm
            have HT4 : Hid (SoTab l w w4 k (prevC l k).toList vs') := by
              refine TabN.apart HT3.out hg4 ?_ ?_
              · obtain ⟨cur, hc, _⟩ := HT3.out.tab
                exact hne _ _ _ hc
              · intro q hq b' hb'
                obtain ⟨_, _, cur, hc⟩ := ownsRow_block (HT3.out.rows q hq) b' hb'
                exact hne _ _ _ hc
            rw [← R0.out] at HT4
            go_roundw
            case rel =>
              exact ⟨k + 1, vs', by omega, by go_num, HT4.out.next, by rw [HLs.out]; exact MapV.kept HMa3.out hg4 (by simp), by rw [R2.out]; exact hm4, HB3.out.grown hg4 (by have := HB3.out.size; omega) (fun b' hb' => by cases hb'; omega)⟩
            case measure => simp [intOf]; omega
          · have R2 : Hid (sendM l (k + 1) = sendM l k) := by
              show (if (stZ l k).k = 2 then _ else _) = _
              rw [HX.out, if_neg h2]
            go_wp2_with (at_mapUpdate; (refine wpList_store_v _ Tryd.underlying3 rfl _ _ _ _ rfl _ Tryd.underlying69 (w.heap.size + 1) _ _ rfl HMa.out (by omega) _ rfl hwp (k : Int) rfl ?_; intro w3 hm3 hg3; obtain ⟨ht3, hmb3, hb3, hsz3, e1, e2⟩ := HS3.out w3 hg3; have HT3 := hideIt ht3; have HMb3 := hideIt hmb3; have HMa3 := hideIt hm3; have HB3 := hideIt hb3; clear ht3 hmb3 hm3 hb3 hg3))
            rw [← R0.out] at HT3
            go_roundw
            case rel =>
              exact ⟨k + 1, vs', by omega, by go_num, HT3.out.next, by rw [HLs.out]; exact HMa3.out, by rw [R2.out]; exact MapV.mono HMb3.out (by omega), HB3.out⟩
            case measure => simp [intOf]; omega
    · obtain rfl : k = l.length := by omega
      go_wp2
      go_ret
      exact ⟨vs, rfl, HT.out, HB.out⟩
end Go.Proofs.YtmonbkoelehdlaaDoor
