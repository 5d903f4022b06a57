/-
  slices.Clone, at ops and at numbers; a story that Story makes, in memory.
  Story, walked.
-/
import Derived.Test.YtaopigjhdkdklaaDoorDbMZ
import Derived.Test.YtaopigjhdkdklaaDoorPwAZ
import Derived.Test.YtaopigjhdkdklaaDoorDcW
import Derived.Test.YtaopigjhdkdklaaDoorMnP
import Derived.Test.YtaopigjhdkdklaaDoorPxW
import Derived.Test.YtaopigjhdkdklaaDoorKsW
namespace Go.Proofs.YtaopigjhdkdklaaDoor
open Go.RowKit

theorem nilEqP (w : World) : (binOp BinOp.eql 71 (.slice none 0 0) (.slice none 0 0)).run Tryd.prog w = .ok (.bool true) w := by kernel_rfl
theorem nilNeP (w : World) (g off n c : Nat) : (binOp BinOp.eql 71 (.slice (some ⟨g, off, none⟩) n c) (.slice none 0 0)).run Tryd.prog w = .ok (.bool false) w := by kernel_rfl
theorem nilEqI (w : World) : (binOp BinOp.eql 52 (.slice none 0 0) (.slice none 0 0)).run Tryd.prog w = .ok (.bool true) w := by kernel_rfl
theorem nilNeI (w : World) (g off n c : Nat) : (binOp BinOp.eql 52 (.slice (some ⟨g, off, none⟩) n c) (.slice none 0 0)).run Tryd.prog w = .ok (.bool false) w := by kernel_rfl
theorem run_cloneP {w : World} {l : List IOp} {g cap : Nat} (hk : ∀ k, k < l.length * 4 → w.cell? ⟨g, k, none⟩ = (opC l)[k]?) (hl : l.length ≤ 60) (ty : TypeId) :
    ∃ v' w', (Builtin.append_ #[71, 71] ty #[.slice (some ⟨w.heap.size, 0, none⟩) 0 0, .slice (some ⟨g, 0, none⟩) l.length cap]).run Tryd.prog (w.alloc (.cells #[] 84)) = .ok v' w' ∧ OpP w' w.heap.size v' l ∧ Below w.heap.size w w' := by
  obtain ⟨i, hi, hz, hsz, hby⟩ := info_parts' infoP84
  have hlen : (opC l).length = l.length * 4 := flat_len (c := opL) (m := 4) (fun _ => rfl) l
  have hnews : ∀ j u, (opC l)[j]? = some u → (w.alloc (.cells #[] 84)).cell? ((⟨g, 0, none⟩ : Addr).add j) = some u := fun j u hj => by
    have hjl : j < l.length * 4 := by rw [← hlen]; exact (List.getElem?_eq_some_iff.1 hj).1
    rw [Addr.add_mid, Nat.zero_add]
    exact cellA ((hk j hjl).trans hj)
  have hown : (w.alloc (.cells #[] 84)).ownsRow w.heap.size 84 4 (.slice (some ⟨w.heap.size, 0, none⟩) 0 0) 0 [] := World.ownsRow_lit (e := 84) (size := 4) w #[] 0 (Nat.le_refl _) (Nat.zero_le _) rfl
  obtain ⟨v', w', hr, ho, hg', _, _⟩ := run_append_own_at (P := Tryd.prog) (w := w.alloc (.cells #[] 84)) w.heap.size 71 ty 84 i _ 4 32 Tryd.underlying71 hi hz hsz hby rfl (by decide) _ _ _ hown ⟨g, 0, none⟩ l.length cap (opC l) hlen hnews (by
    intro u hu
    obtain ⟨o, _, ho⟩ := List.mem_flatMap.1 hu
    simp [opL] at ho
    rcases ho with rfl | rfl | rfl | rfl <;> rfl) (by unfold maxLen; omega) (by omega) (by simp)
  refine ⟨v', w', hr, ?_, ?_⟩
  · rw [Nat.zero_add, List.nil_append] at ho
    exact ho
  · exact (belA (Below.refl _ _) (.cells #[] 84)).grown hg' (by simp) (fun b hb => (ownsRow_block hown b hb).1)
theorem run_cloneI {w : World} {l : List Nat} {g cap : Nat} (hk : ∀ k, k < l.length * 1 → w.cell? ⟨g, k, none⟩ = (numD l)[k]?) (hl : l.length ≤ 999) (ty : TypeId) :
    ∃ v' w', (Builtin.append_ #[52, 52] ty #[.slice (some ⟨w.heap.size, 0, none⟩) 0 0, .slice (some ⟨g, 0, none⟩) l.length cap]).run Tryd.prog (w.alloc (.cells #[] 3)) = .ok v' w' ∧ w'.ownsRow w.heap.size 3 1 v' l.length (numD l) ∧ Below w.heap.size w w' := by
  obtain ⟨i, hi, hz, hsz, hby⟩ := info_parts' info3
  have hlen : (numD l).length = l.length * 1 := by simp [numD]
  have hnews : ∀ j u, (numD l)[j]? = some u → (w.alloc (.cells #[] 3)).cell? ((⟨g, 0, none⟩ : Addr).add j) = some u := fun j u hj => by
    have hjl : j < l.length * 1 := by rw [← hlen]; exact (List.getElem?_eq_some_iff.1 hj).1
    rw [Addr.add_mid, Nat.zero_add]
    exact cellA ((hk j hjl).trans hj)
  have hown : (w.alloc (.cells #[] 3)).ownsRow w.heap.size 3 1 (.slice (some ⟨w.heap.size, 0, none⟩) 0 0) 0 [] := World.ownsRow_lit (e := 3) (size := 1) w #[] 0 (Nat.le_refl _) (Nat.zero_le _) rfl
  obtain ⟨v', w', hr, ho, hg', _, _⟩ := run_append_own_at (P := Tryd.prog) (w := w.alloc (.cells #[] 3)) w.heap.size 52 ty 3 i _ 1 8 Tryd.underlying52 hi hz hsz hby rfl (by decide) _ _ _ hown ⟨g, 0, none⟩ l.length cap (numD l) hlen hnews (by
    intro u hu
    obtain ⟨q, _, rfl⟩ := List.mem_map.1 hu
    rfl) (by unfold maxLen; omega) (by omega) (by simp)
  refine ⟨v', w', hr, ?_, ?_⟩
  · rw [Nat.zero_add, List.nil_append] at ho
    exact ho
  · exact (belA (Below.refl _ _) (.cells #[] 3)).grown hg' (by simp) (fun b hb => (ownsRow_block hown b hb).1)

set_option maxRecDepth 100000 in
set_option maxHeartbeats 1000000 in
theorem cloneP_any {base : Nat} {v : Value} {l : List IOp} {W : World} (h : OpP W base v l) (hl : l.length ≤ 60) : Calls Tryd.prog 32 #[v] W fun e W' => ∃ v', e = .returned v' ∧ OpP W' W.heap.size v' l ∧ Below W.heap.size W W' := by
  rcases own_cells h with ⟨rfl, h0⟩ | ⟨g, cap, rfl, hc, hg, hk⟩
  · have hl0 : l = [] := List.eq_nil_of_length_eq_zero h0
    have HN : Hid (OpP W W.heap.size (.slice none 0 0) l) := by rw [hl0]; exact World.ownsRow_nil _ _ _ _
    have hq := nilEqP W
    clear h hl0 h0
    go_enter Tryd.func32, Tryd.ntmps32
    go_wp2
    go_ret
    exact ⟨_, rfl, HN.out, Below.refl _ _⟩
  · obtain ⟨v', W1, hr, ho, hb⟩ := run_cloneP (cap := cap) hk hl 71
    have HR := hideIt hr
    have HO := hideIt ho
    have HB := hideIt hb
    have hq := nilNeP W g 0 l.length cap
    clear h hr ho hb
    go_enter Tryd.func32, Tryd.ntmps32
    go_wp2_with (at_builtin; refine wpList_append_run _ rfl _ _ 71 rfl _ _ _ W1 rfl rfl HR.out ?_)
    go_wp2
    go_ret
    exact ⟨_, rfl, HO.out, HB.out⟩

set_option maxRecDepth 100000 in
set_option maxHeartbeats 1000000 in
theorem cloneI_any {base : Nat} {v : Value} {l : List Nat} {W : World} (h : W.ownsRow base 3 1 v l.length (numD l)) (hl : l.length ≤ 999) : Calls Tryd.prog 33 #[v] W fun e W' => ∃ v', e = .returned v' ∧ W'.ownsRow W.heap.size 3 1 v' l.length (numD l) ∧ Below W.heap.size W W' := by
  rcases own_cells h with ⟨rfl, h0⟩ | ⟨g, cap, rfl, hc, hg, hk⟩
  · have hl0 : l = [] := List.eq_nil_of_length_eq_zero h0
    have HN : Hid (W.ownsRow W.heap.size 3 1 (.slice none 0 0) l.length (numD l)) := by rw [hl0]; exact World.ownsRow_nil _ _ _ _
    have hq := nilEqI W
    clear h hl0 h0
    go_enter Tryd.func33, Tryd.ntmps33
    go_wp2
    go_ret
    exact ⟨_, rfl, HN.out, Below.refl _ _⟩
  · obtain ⟨v', W1, hr, ho, hb⟩ := run_cloneI (cap := cap) hk hl 52
    have HR := hideIt hr
    have HO := hideIt ho
    have HB := hideIt hb
    have hq := nilNeI W g 0 l.length cap
    clear h hr ho hb
    go_enter Tryd.func33, Tryd.ntmps33
    go_wp2_with (at_builtin; refine wpList_append_run _ rfl _ _ 52 rfl _ _ _ W1 rfl rfl HR.out ?_)
    go_wp2
    go_ret
    exact ⟨_, rfl, HO.out, HB.out⟩

theorem infoT95 : (Tryd.prog.info? 95).map (fun i => (i.zero, i.size, i.bytes)) = some (some (.agg #[.slice none 0 0, .bool false]), 2, 32) := by kernel_rfl
/-- Transactions of the program that are owned. -/
def TxP (w : World) (base : Nat) (v : Value) (l : List (Value × Bool)) : Prop := w.ownsRow base 95 2 v l.length (txC l)
theorem run_appX {w : World} {base B : Nat} {v : Value} {L : List (Value × Bool)} {p : Value × Bool} (hp : p.1.oneCell' = true) (hown : TxP w base v L) (h0 : w.cell? ⟨B, 0, none⟩ = some p.1) (h1 : w.cell? ⟨B, 1, none⟩ = some (.bool p.2)) (hb : base ≤ w.heap.size) (hlen : (L.length + 1) * 32 ≤ 140737488355328) (ty : TypeId) :
    ∃ v' w', (Builtin.append_ #[41, 41] ty #[v, .slice (some ⟨B, 0, none⟩) 1 1]).run Tryd.prog w = .ok v' w' ∧ TxP w' base v' (L ++ [p]) ∧ w.grownBy w' v.ownBlock ∧ (v'.ownBlock = v.ownBlock ∨ v'.ownBlock = some w.heap.size) := by
  obtain ⟨i, hi, hz, hsz, hby⟩ := info_parts' infoT95
  have hnews : ∀ j u, (txL p)[j]? = some u → w.cell? ((⟨B, 0, none⟩ : Addr).add j) = some u := by
    intro j u hj
    rw [Addr.add_mid, Nat.zero_add]
    match j, hj with
    | 0, hj => simp [txL] at hj; subst hj; exact h0
    | 1, hj => simp [txL] at hj; subst hj; exact h1
    | k + 2, hj => simp [txL] at hj
  obtain ⟨v', w', hr, ho, hg, _, hob⟩ := run_append_own_at (P := Tryd.prog) (w := w) base 41 ty 95 i _ 2 32 Tryd.underlying41 hi hz hsz hby rfl (by decide) v _ _ hown ⟨B, 0, none⟩ 1 1 (txL p) rfl hnews (by
    intro u hu
    simp [txL] at hu
    rcases hu with rfl | rfl
    · exact hp
    · rfl) (by unfold maxLen; omega) (by omega) hb
  refine ⟨v', w', hr, ?_, hg, hob⟩
  unfold TxP
  rw [txC_app, List.length_append]
  exact ho
theorem txP_q {w : World} {base : Nat} {v : Value} {ps : List (Value × Bool)} {ts : List ITx} (h : TxP w base v ps) (hl : ps.length = ts.length) (hp : ∀ k (h1 : k < ps.length) (h2 : k < ts.length), OpP w base ps[k].1 ts[k].ops ∧ ps[k].2 = ts[k].com ∧ ts[k].ops.length ≤ maxLen) : ∃ a cap, v = .slice a ts.length cap ∧ ts.length ≤ cap ∧ ITxsQ w a ts := by
  rcases own_cells h with ⟨rfl, h0⟩ | ⟨g, cap, rfl, hc, hg, hk⟩
  · have : ts = [] := List.eq_nil_of_length_eq_zero (by omega)
    subst this
    exact ⟨none, 0, rfl, Nat.le_refl _, .inl rfl⟩
  · refine ⟨_, cap, by rw [hl], by omega, .inr ⟨g, 0, rfl, hg, fun k hkl => ?_⟩⟩
    have hh : ∀ j, j < 2 → w.cell? ⟨g, 0 + k * 2 + j, none⟩ = (txL (ps[k]'(by omega)))[j]? := fun j hj => by
      rw [Nat.zero_add, hk _ (by omega)]
      exact flat_at (c := txL) (m := 2) (fun _ => rfl) ps k j (by omega) hj
    obtain ⟨h1, h2, h3⟩ := hp k (by omega) hkl
    obtain ⟨a, cp, e1, e2, e3⟩ := opP_q h1
    refine ⟨a, cp, ?_, e2, h3, e3, ?_⟩
    · rw [← e1]; exact hh 0 (by omega)
    · rw [← h2]; exact hh 1 (by omega)

/-- The story so far: m transactions, and lists of the first j keys (S: its box; O: its lists). -/
structure StP (W Z : World) (S O : Nat) (st : MvS) (m j : Nat) : Prop where
  bel : Below W.heap.size W Z
  tx : ∃ (v : Value) (ps : List (Value × Bool)), Z.heap[S]? = some (.cells #[v, .slice (some ⟨O, 0, none⟩) 8 8] 44 (0, 0)) ∧ TxP Z W.heap.size v ps ∧ ps.length = m ∧ ∀ t (h : t < ps.length), OpP Z W.heap.size ps[t].1 (st.ops t) ∧ ps[t].2 = decide (st.en t ≠ -1)
  od : ∃ f : Nat → Value, (∃ cur, Z.heap[O]? = some (.cells cur 52 (0, 0))) ∧ (∀ q, q < 8 → Z.cell? ⟨O, q, none⟩ = some (f q) ∧ (f q).oneCell' = true) ∧ ∀ q, q < j → Z.ownsRow W.heap.size 3 1 (f q) (st.ord q).length (numD (st.ord q))
  lo : W.heap.size ≤ S ∧ W.heap.size ≤ O
section
variable {W Z Z' : World} {S O : Nat} {st : MvS} {m j : Nat}
theorem StP.below (h : StP W Z S O st m j) (hb : Below Z.heap.size Z Z') : StP W Z' S O st m j := by
  obtain ⟨v, ps, h1, h2, h3, h4⟩ := h.tx
  obtain ⟨f, ⟨cur, g1⟩, g2, g3⟩ := h.od
  refine ⟨belJ h.bel hb, ⟨v, ps, (hb.block _ (lt_of_heap h1)).trans h1, ownsRow_same h2 fun b hb' => hb.block b (ownsRow_block h2 b hb').2.1, h3, fun t ht => ⟨ownsRow_same (h4 t ht).1 fun b hb' => hb.block b (ownsRow_block (h4 t ht).1 b hb').2.1, (h4 t ht).2⟩⟩, ⟨f, ⟨cur, (hb.block _ (lt_of_heap g1)).trans g1⟩, fun q hq => ⟨(World.cell?_of_block (a := ⟨O, q, none⟩) (hb.block _ (lt_of_heap g1))).trans (g2 q hq).1, (g2 q hq).2⟩, fun q hq => ownsRow_same (g3 q hq) fun b hb' => hb.block b (ownsRow_block (g3 q hq) b hb').2.1⟩, h.lo⟩
/-- One more transaction. -/
theorem StP.pushT (h : StP W Z S O st m 0) {v : Value} {ps : List (Value × Bool)} (h1 : Z.heap[S]? = some (.cells #[v, .slice (some ⟨O, 0, none⟩) 8 8] 44 (0, 0))) (h2 : TxP Z W.heap.size v ps) (h3 : ps.length = m) (h4 : ∀ t (h : t < ps.length), OpP Z W.heap.size ps[t].1 (st.ops t) ∧ ps[t].2 = decide (st.en t ≠ -1)) {vo : Value} (ho : OpP Z W.heap.size vo (st.ops m)) {v' : Value} {Z1 : World} (h5 : TxP Z1 W.heap.size v' (ps ++ [(vo, decide (st.en m ≠ -1))])) (hg : Z.grownBy Z1 v.ownBlock) (hv : v'.ownBlock = v.ownBlock ∨ v'.ownBlock = some Z.heap.size) :
    StP W (Z1.setCell ⟨S, 0, none⟩ v') S O st (m + 1) 0 ∧ Z1.heap[S]? = some (.cells #[v, .slice (some ⟨O, 0, none⟩) 8 8] 44 (0, 0)) := by
  obtain ⟨f, ⟨cur, g1⟩, g2, g3⟩ := h.od
  have tS : tagD Z.heap[S]? = 45 := by rw [h1]; rfl
  have tO : tagD Z.heap[O]? = 53 := by rw [g1]; rfl
  have tV : ∀ b, v.ownBlock = some b → tagD Z.heap[b]? = 96 := fun b hb => own_tagD h2 hb
  have hS := lt_of_heap h1
  have hbk : ∀ b, b < Z.heap.size → b ≠ S → v.ownBlock ≠ some b → (Z1.setCell ⟨S, 0, none⟩ v').heap[b]? = Z.heap[b]? := fun b hb n1 n2 => (Below.heap_setCell Z1 ⟨S, 0, none⟩ v' b n1).trans (hg.block b hb fun e => n2 e.symm)
  have eS : Z1.heap[S]? = Z.heap[S]? := hg.block S hS fun e => ne_tagD tS (tV _ e.symm) (by decide) rfl
  have op : ∀ {b : Nat}, tagD Z.heap[b]? = 85 → b < Z.heap.size → (Z1.setCell ⟨S, 0, none⟩ v').heap[b]? = Z.heap[b]? := fun hx hl => hbk _ hl (ne_tagD hx tS (by decide)) fun e => ne_tagD hx (tV _ e) (by decide) rfl
  have eO := hbk O (lt_of_heap g1) (ne_tagD tO tS (by decide)) fun e => ne_tagD tO (tV _ e) (by decide) rfl
  refine ⟨⟨(h.bel.grown hg h.bel.size fun b hb => (ownsRow_block h2 b hb).1).setCell (p := ⟨S, 0, none⟩) h.lo.1 _, ⟨v', ps ++ [(vo, decide (st.en m ≠ -1))], heap_setCell_same Z1 S 0 _ 44 _ (eS.trans h1), ownsRow_same h5 fun b hb => Below.heap_setCell Z1 ⟨S, 0, none⟩ v' b ?_, by simp [h3], fun t ht => ?_⟩, ⟨f, ⟨cur, eO.trans g1⟩, fun q hq => ⟨(World.cell?_of_block (a := ⟨O, q, none⟩) eO).trans (g2 q hq).1, (g2 q hq).2⟩, fun q hq => by omega⟩, h.lo⟩, eS.trans h1⟩
  · rcases hv with e | e
    · rw [e] at hb; exact ne_tagD (tV b hb) tS (by decide)
    · rw [e] at hb
      obtain rfl : Z.heap.size = b := by simpa using hb
      show Z.heap.size ≠ S
      omega
  · rw [List.length_append, List.length_singleton] at ht
    by_cases e : t < ps.length
    · rw [List.getElem_append_left e]
      exact ⟨ownsRow_same (h4 t e).1 fun b hb => op (own_tagD (h4 t e).1 hb) (ownsRow_block (h4 t e).1 b hb).2.1, (h4 t e).2⟩
    · obtain rfl : t = m := by omega
      rw [List.getElem_append_right (by omega)]
      simp only [h3, Nat.sub_self, List.getElem_cons_zero]
      exact ⟨ownsRow_same ho fun b hb => op (own_tagD ho hb) (ownsRow_block ho b hb).2.1, trivial⟩
/-- One more list. -/
theorem StP.pushL (h : StP W Z S O st m j) (hj : j < 8) {v : Value} (hv1 : v.oneCell' = true) (hv : Z.ownsRow W.heap.size 3 1 v (st.ord j).length (numD (st.ord j))) : StP W (Z.setCell ⟨O, j, none⟩ v) S O st m (j + 1) ∧ Z.frozen? ⟨O, j, none⟩ = false ∧ ∃ u, Z.cell? ⟨O, j, none⟩ = some u := by
  obtain ⟨w, ps, h1, h2, h3, h4⟩ := h.tx
  obtain ⟨f, ⟨cur, g1⟩, g2, g3⟩ := h.od
  have tS : tagD Z.heap[S]? = 45 := by rw [h1]; rfl
  have tO : tagD Z.heap[O]? = 53 := by rw [g1]; rfl
  have hbk : ∀ {b x : Nat}, tagD Z.heap[b]? = x → x ≠ 53 → (Z.setCell ⟨O, j, none⟩ v).heap[b]? = Z.heap[b]? := fun hx hne => Below.heap_setCell Z ⟨O, j, none⟩ v _ (ne_tagD hx tO hne)
  obtain ⟨cur', hc', _⟩ := heap_setCell g1 j v
  refine ⟨⟨h.bel.setCell (p := ⟨O, j, none⟩) h.lo.2 _, ⟨w, ps, (hbk tS (by decide)).trans h1, ownsRow_same h2 fun b hb => hbk (own_tagD h2 hb) (by decide), h3, fun t ht => ⟨ownsRow_same (h4 t ht).1 fun b hb => hbk (own_tagD (h4 t ht).1 hb) (by decide), (h4 t ht).2⟩⟩, ⟨updM f j v, ⟨cur', hc'⟩, fun q hq => ?_, fun q hq => ?_⟩, h.lo⟩, frozen_of_row _ _ _ _ 52 g1, ⟨_, (g2 j hj).1⟩⟩
  · by_cases e : q = j
    · subst e
      rw [updM_same]
      exact ⟨World.cell?_setCell_same' _ _ _ (by rw [(g2 q hq).1]; rfl), hv1⟩
    · rw [updM_ne _ _ e, World.cell?_setCell_other _ _ _ _ (offNe (Ne.symm e))]
      exact g2 q hq
  · by_cases e : q = j
    · subst e
      rw [updM_same]
      exact ownsRow_same hv fun b hb => hbk (own_tagD hv hb) (by decide)
    · rw [updM_ne _ _ e]
      have := g3 q (by omega)
      exact ownsRow_same this fun b hb => hbk (own_tagD this hb) (by decide)
/-- The whole story. -/
theorem StP.done (h : StP W Z S O st m 8) (hI : MvI m st) (hm : m ≤ 8) (ho : ∀ q, q < 8 → (st.ord q).length ≤ 999) : ∃ a ca b cb, Z.heap[S]? = some (.cells #[.slice a (mvSt m st).txs.length ca, .slice b (mvSt m st).ord.length cb] 44 (0, 0)) ∧ StyQ Z a ca b cb (mvSt m st) := by
  obtain ⟨v, ps, h1, h2, h3, h4⟩ := h.tx
  obtain ⟨f, ⟨cur, g1⟩, g2, g3⟩ := h.od
  have hl : (mvSt m st).txs.length = m := mv_len m st
  obtain ⟨a, ca, rfl, hca, hq⟩ := txP_q (ts := (mvSt m st).txs) h2 (by rw [hl]; exact h3) (fun k k1 k2 => by
    have e : (mvSt m st).txs[k] = ⟨st.ops k, st.com k⟩ := by simp [mvSt]
    rw [e]
    refine ⟨(h4 k k1).1, ?_, by have := hI.opl k; show (st.ops k).length ≤ maxLen; unfold maxLen; omega⟩
    rw [(h4 k k1).2]
    show decide (st.en k ≠ -1) = st.com k
    have := hI.com k
    have h5 := (hI.enl k).2
    cases hc : st.com k
    · rw [hc] at this
      simp at this
      simp
      omega
    · have := this.1 hc
      simp
      omega)
  refine ⟨a, ca, some ⟨O, 0, none⟩, 8, by rw [mv_ord]; exact h1, hq, hca, by rw [hl]; unfold maxLen; omega, .inr ⟨O, 0, rfl, lt_of_heap g1, fun q hq' => ?_⟩, by rw [mv_ord]; omega, by rw [mv_ord]; unfold maxLen; omega⟩
  have e : (mvSt m st).ord[q] = (st.ord q).map fun x : Nat => (x : Int) := by simp [mvSt]
  rw [e, Nat.zero_add]
  rw [mv_ord] at hq'
  have hI2 := num_hasI (g3 q hq')
  obtain ⟨b, cb, ev, hcb, hb⟩ := hI2
  refine ⟨b, cb, by rw [← ev]; exact (g2 q hq').1, hcb, by rw [List.length_map]; have := ho q hq'; unfold maxLen; omega, ?_⟩
  rcases own_cells (g3 q hq') with ⟨e1, e2⟩ | ⟨g, cap, e1, _, hg, _⟩
  · left
    have : st.ord q = [] := List.eq_nil_of_length_eq_zero e2
    rw [this]
    rfl
  · right
    rw [e1] at ev
    have eb : b = some ⟨g, 0, none⟩ := by injection ev with ev _ _; exact ev.symm
    subst eb
    refine ⟨g, 0, rfl, hg, fun k hk => ?_⟩
    obtain ⟨g', off, e', hc⟩ := hb k hk
    cases e'
    exact hc
end
end Go.Proofs.YtaopigjhdkdklaaDoor

namespace Go.Proofs.YtaopigjhdkdklaaDoor
open Go.RowKit

theorem idx68 (v : Nat → Value) (w : World) : ∀ q : Nat, q < 8 → (Instr.index 68 (.agg #[v 0, v 1, v 2, v 3, v 4, v 5, v 6, v 7]) (.int .i64 (q : Int))).run Tryd.prog w = .ok (v q) w
  | 0, _ => by kernel_rfl
  | 1, _ => by kernel_rfl
  | 2, _ => by kernel_rfl
  | 3, _ => by kernel_rfl
  | 4, _ => by kernel_rfl
  | 5, _ => by kernel_rfl
  | 6, _ => by kernel_rfl
  | 7, _ => by kernel_rfl
  | q + 8, h => absurd h (by omega)
theorem StP.other {W Z Z' : World} {S O R : Nat} {st : MvS} {m j : Nat} (h : StP W Z S O st m j) (hR : tagD Z.heap[R]? = 45) (hne : S ≠ R) (hk : ∀ b, b ≠ R → Z'.heap[b]? = Z.heap[b]?) (hb : Below W.heap.size W Z') : StP W Z' S O st m j := by
  obtain ⟨v, ps, h1, h2, h3, h4⟩ := h.tx
  obtain ⟨f, ⟨cur, g1⟩, g2, g3⟩ := h.od
  have tO : tagD Z.heap[O]? = 53 := by rw [g1]; rfl
  have eO := hk O (ne_tagD tO hR (by decide))
  have row : ∀ {b x : Nat}, tagD Z.heap[b]? = x → x ≠ 45 → Z'.heap[b]? = Z.heap[b]? := fun hx hx' => hk _ (ne_tagD hx hR hx')
  exact ⟨hb, ⟨v, ps, (hk _ hne).trans h1, ownsRow_same h2 fun b hb' => row (own_tagD h2 hb') (by decide), h3, fun t ht => ⟨ownsRow_same (h4 t ht).1 fun b hb' => row (own_tagD (h4 t ht).1 hb') (by decide), (h4 t ht).2⟩⟩, ⟨f, ⟨cur, eO.trans g1⟩, fun q hq => ⟨(World.cell?_of_block (a := ⟨O, q, none⟩) eO).trans (g2 q hq).1, (g2 q hq).2⟩, fun q hq => ownsRow_same (g3 q hq) fun b hb' => row (own_tagD (g3 q hq) hb') (by decide)⟩, h.lo⟩

section
variable {w0 W : World} {k : PrK} {c : Bool} {n : Nat} {st : MvS}
set_option maxRecDepth 100000 in
set_option maxHeartbeats 4000000 in
theorem story_any (h : PrB w0 W k c n st) (hI : MvI n st) (hn : n ≤ 8) : Calls Tryd.prog 16 #[.pointer (some ⟨k.B, 0, none⟩)] W fun e W' => ∃ a ca b cb, e = .returned (.agg #[.slice a (mvSt n st).txs.length ca, .slice b (mvSt n st).ord.length cb]) ∧ StyQ W' a ca b cb (mvSt n st) ∧ Below W.heap.size W W' := by
  have HP := hideIt h
  have HI := hideIt hI
  have HOl := hideIt (hI.ord_few hn).2
  have hB := h.lt
  have hT := h.ltT
  have hmk : (Instr.makeSlice 42 (.int .i64 8) (.int .i64 8)).run Tryd.prog (W.alloc (.cells #[.slice none 0 0, .slice none 0 0] 44)) = .ok (.slice (some ⟨W.heap.size + 1, 0, none⟩) 8 8) ((W.alloc (.cells #[.slice none 0 0, .slice none 0 0] 44)).alloc (.cells #[.slice none 0 0, .slice none 0 0, .slice none 0 0, .slice none 0 0, .slice none 0 0, .slice none 0 0, .slice none 0 0, .slice none 0 0] 52)) := by
    have := made_lists (W.alloc (.cells #[.slice none 0 0, .slice none 0 0] 44)) 8 (by omega)
    rw [World.size_alloc, show madeCells #[Value.slice none 0 0] 8 = #[.slice none 0 0, .slice none 0 0, .slice none 0 0, .slice none 0 0, .slice none 0 0, .slice none 0 0, .slice none 0 0, .slice none 0 0] by kernel_rfl] at this
    exact this
  have hst : ∃ W3, W3 = (((W.alloc (.cells #[.slice none 0 0, .slice none 0 0] 44)).alloc (.cells #[.slice none 0 0, .slice none 0 0, .slice none 0 0, .slice none 0 0, .slice none 0 0, .slice none 0 0, .slice none 0 0, .slice none 0 0] 52)).alloc (.cells #[.slice none 0 0, .slice (some ⟨W.heap.size + 1, 0, none⟩) 8 8] 44)) := ⟨_, rfl⟩
  obtain ⟨W3, hW3⟩ := hst
  have hR3 : W3.heap[W.heap.size]? = some (.cells #[.slice none 0 0, .slice none 0 0] 44 (0, 0)) := by
    rw [hW3]
    exact (Below.heap_alloc _ _ _ (by simp; omega)).trans ((Below.heap_alloc _ _ _ (by simp)).trans (heap_alloc_new _ _))
  have hO3 : W3.heap[W.heap.size + 1]? = some (.cells #[.slice none 0 0, .slice none 0 0, .slice none 0 0, .slice none 0 0, .slice none 0 0, .slice none 0 0, .slice none 0 0, .slice none 0 0] 52 (0, 0)) := by
    rw [hW3]
    have := heap_alloc_new (W.alloc (.cells #[.slice none 0 0, .slice none 0 0] 44)) (.cells #[.slice none 0 0, .slice none 0 0, .slice none 0 0, .slice none 0 0, .slice none 0 0, .slice none 0 0, .slice none 0 0, .slice none 0 0] 52)
    rw [World.size_alloc] at this
    exact (Below.heap_alloc _ _ _ (by simp)).trans this
  have hS3 : W3.heap[W.heap.size + 1 + 1]? = some (.cells #[.slice none 0 0, .slice (some ⟨W.heap.size + 1, 0, none⟩) 8 8] 44 (0, 0)) := by
    rw [hW3]
    have := heap_alloc_new ((W.alloc (.cells #[.slice none 0 0, .slice none 0 0] 44)).alloc (.cells #[.slice none 0 0, .slice none 0 0, .slice none 0 0, .slice none 0 0, .slice none 0 0, .slice none 0 0, .slice none 0 0, .slice none 0 0] 52)) (.cells #[.slice none 0 0, .slice (some ⟨W.heap.size + 1, 0, none⟩) 8 8] 44)
    rw [World.size_alloc, World.size_alloc] at this
    exact this
  have hB3 : Below W.heap.size W W3 := by rw [hW3]; exact belA (belA (belA (Below.refl _ _) _) _) _
  have HSt3 : Hid (StP W W3 (W.heap.size + 1 + 1) (W.heap.size + 1) st 0 0) := by
    refine ⟨hB3, ⟨.slice none 0 0, [], hS3, World.ownsRow_nil _ _ _ _, rfl, fun t ht => absurd ht (by simp)⟩, ⟨fun _ => .slice none 0 0, ⟨_, hO3⟩, fun q hq => ⟨?_, rfl⟩, fun q hq => absurd hq (by omega)⟩, by omega, by omega⟩
    rw [cell_of_row _ _ _ _ 52 _ hO3]
    rcases q with _ | _ | _ | _ | _ | _ | _ | _ | q
    all_goals first | rfl | omega
  have HR3 := hideIt hR3
  have c2 := (hB3.cell (p := ⟨k.B, 2, none⟩) hB).trans h.cells.2.2.1
  have c2' := c2
  rw [hW3] at c2'
  have HW3 := hideIt hW3
  clear h hI hR3 hO3 hS3 hW3
  go_enter Tryd.func16, Tryd.ntmps16
  go_wp2
  rw [← HW3.out]
  clear HW3 hmk c2'
  go_loopw [18] (fun v wr => ∃ m : Nat, m ≤ n ∧ v = .int .i64 m ∧ StP W wr (W.heap.size + 1 + 1) (W.heap.size + 1) st m 0 ∧ wr.heap[W.heap.size]? = some (.cells #[.slice none 0 0, .slice none 0 0] 44 (0, 0))) (fun v _ => n - (intOf v).toNat)
  case atStart => exact ⟨0, Nat.zero_le _, rfl, HSt3.out, HR3.out⟩
  case round =>
    clear c2 HSt3 HR3 hB3
    obtain ⟨m, hm, rfl, hs, hr⟩ := hrel
    have HS := hideIt hs
    have HR := hideIt hr
    by_cases hmn : m < n
    · have hmn' : (m : Int) < (n : Int) := by omega
      obtain ⟨x0, x1, x2, x3⟩ := HP.out.tx m hmn
      obtain ⟨oa, ocp, eo, _, _⟩ := HP.out.opq hmn
      rw [eo] at x0
      have hb := hs.bel
      have y0 := (hb.cell (p := ⟨k.T, m * 4, none⟩) hT).trans x0
      have y1 := (hb.cell (p := ⟨k.T, m * 4 + 1, none⟩) hT).trans x1
      have y2 := (hb.cell (p := ⟨k.T, m * 4 + 2, none⟩) hT).trans x2
      have y3 := (hb.cell (p := ⟨k.T, m * 4 + 3, none⟩) hT).trans x3
      have hbV : Below wr.heap.size wr (wr.alloc (.cells #[.slice oa (st.ops m).length ocp, .int .i64 (st.bg m), .int .i64 (st.en m), .bool (st.ov m)] 73)) := belA (Below.refl _ _) _
      have hsV := hs.below hbV
      have hnV := heap_alloc_new wr (.cells #[.slice oa (st.ops m).length ocp, .int .i64 (st.bg m), .int .i64 (st.en m), .bool (st.ov m)] 73)
      have hrV := (hbV.block W.heap.size (lt_of_heap hr)).trans hr
      have HOp : Hid (∀ Y, Below W.heap.size W Y → OpP Y w0.heap.size (.slice oa (st.ops m).length ocp) (st.ops m)) := fun Y hY => by
        have := (HP.out.below hY).ops m hmn
        rw [eo] at this
        exact this
      have hl60 := HI.out.opl m
      obtain ⟨cm, hcm⟩ : ∃ cm, decide (st.en m ≠ -1) = cm := ⟨_, rfl⟩
      have hcm' : (st.en m != -1) = cm := by rw [← hcm, Bool.eq_iff_iff]; simp
      clear x0 x1 x2 x3 hs hr hb HS HR eo
      go_upto_region 7 with fail
      generalize wr.alloc (.cells #[.slice oa (st.ops m).length ocp, .int .i64 (st.bg m), .int .i64 (st.en m), .bool (st.ov m)] 73) = V at *
      clear y0 y1 y2 y3
      obtain ⟨v, ps, h1, h2, h3, h4⟩ := hsV.tx
      have z0 : V.cell? ⟨W.heap.size + 1 + 1, 0, none⟩ = some v := by rw [cell_of_row _ _ _ _ 44 _ h1]; rfl
      have z1 : V.cell? ⟨wr.heap.size, 0, none⟩ = some (.slice oa (st.ops m).length ocp) := by rw [cell_of_row _ _ _ _ 73 _ hnV]; rfl
      have z2 : V.cell? ⟨wr.heap.size, 2, none⟩ = some (.int .i64 (st.en m)) := by rw [cell_of_row _ _ _ _ 73 _ hnV]; rfl
      have HX : Hid (∀ Y, Below V.heap.size V Y → Y.cell? ⟨W.heap.size + 1 + 1, 0, none⟩ = some v ∧ Y.cell? ⟨wr.heap.size, 0, none⟩ = some (.slice oa (st.ops m).length ocp) ∧ Y.cell? ⟨wr.heap.size, 2, none⟩ = some (.int .i64 (st.en m))) := fun Y hY => ⟨(hY.cell (p := ⟨W.heap.size + 1 + 1, 0, none⟩) (lt_of_heap h1)).trans z0, (hY.cell (p := ⟨wr.heap.size, 0, none⟩) (lt_of_heap hnV)).trans z1, (hY.cell (p := ⟨wr.heap.size, 2, none⟩) (lt_of_heap hnV)).trans z2⟩
      have HV := hideIt hsV
      have HRV := hideIt hrV
      have HCl : Hid (∀ Y, Below V.heap.size V Y → Calls Tryd.prog 32 #[.slice oa (st.ops m).length ocp] Y fun e W' => ∃ v', e = .returned v' ∧ OpP W' Y.heap.size v' (st.ops m) ∧ Below Y.heap.size Y W') := fun Y hY => cloneP_any (HOp.out Y (belJ HV.out.bel hY)) hl60
      have HFin : Hid (∀ (Y : World) (vo v' : Value) (Z1 : World), Below V.heap.size V Y → OpP Y W.heap.size vo (st.ops m) → TxP Z1 W.heap.size v' (ps ++ [(vo, cm)]) → Y.grownBy Z1 v.ownBlock → (v'.ownBlock = v.ownBlock ∨ v'.ownBlock = some Y.heap.size) → StP W (Z1.setCell ⟨W.heap.size + 1 + 1, 0, none⟩ v') (W.heap.size + 1 + 1) (W.heap.size + 1) st (m + 1) 0 ∧ (Z1.setCell ⟨W.heap.size + 1 + 1, 0, none⟩ v').heap[W.heap.size]? = some (.cells #[.slice none 0 0, .slice none 0 0] 44 (0, 0)) ∧ Z1.cell? ⟨W.heap.size + 1 + 1, 0, none⟩ = some v ∧ Z1.frozen? ⟨W.heap.size + 1 + 1, 0, none⟩ = false) := fun Y vo v' Z1 hY a1 a2 a3 a4 => by
        have hsY := HV.out.below hY
        have b1 := (hY.block _ (lt_of_heap h1)).trans h1
        have b2 : TxP Y W.heap.size v ps := ownsRow_same h2 fun b hb => hY.block b (ownsRow_block h2 b hb).2.1
        obtain ⟨c1, c2⟩ := hsY.pushT b1 b2 h3 (fun t ht => ⟨ownsRow_same (h4 t ht).1 fun b hb => hY.block b (ownsRow_block (h4 t ht).1 b hb).2.1, (h4 t ht).2⟩) a1 (by rw [hcm]; exact a2) a3 a4
        have rY := (hY.block _ (lt_of_heap HRV.out)).trans HRV.out
        have tR : tagD Y.heap[W.heap.size]? = 45 := by rw [rY]; rfl
        have rZ : Z1.heap[W.heap.size]? = Y.heap[W.heap.size]? := a3.block _ (lt_of_heap rY) fun e => ne_tagD tR (own_tagD b2 e.symm) (by decide) rfl
        exact ⟨c1, (Below.heap_setCell _ ⟨W.heap.size + 1 + 1, 0, none⟩ _ _ (by show W.heap.size ≠ W.heap.size + 1 + 1; omega)).trans (rZ.trans rY), by rw [cell_of_row _ _ _ _ 44 _ c2]; rfl, frozen_of_row _ _ _ _ 44 c2⟩
      have HTx : Hid (∀ Y, Below V.heap.size V Y → TxP Y W.heap.size v ps) := fun Y hY => ownsRow_same h2 fun b hb => hY.block b (ownsRow_block h2 b hb).2.1
      have HW0 : Hid (W.heap.size ≤ V.heap.size) := hsV.bel.size
      have hps : ps.length ≤ 8 := by omega
      clear hsV hrV hnV z0 z1 z2 h1 h2 h4 hcm HOp hbV
      generalize st.en m = enm at *
      refine wp_region_L (B := [10, 12]) (S := (fun _ => True)) (T := (fun w' => Below V.heap.size V w')) (by kernel_rfl) ⟨trivial, (Below.refl _ _).drew⟩ (fun hHeld => ?_)
      refine wpAnyL_takeS (i := 0) (v := ?_) rfl (by kernel_rfl) (by kernel_rfl) (by kernel_rfl) (by kernel_rfl) (fun _ _ _ h => h) (Or.inl ⟨by rfl, ?_⟩) (by assumption) ?_
      rotate_left 1
      · intro wz _
        go_simp
        all_goals with_reducible rfl
      simp only [Act.put, List.setIfInBounds_toArray, List.set_cons_zero, List.set_cons_succ, List.getElem_toArray, List.getElem_cons_zero]
      refine wpAnyL_take [10, 12] (i := 1) (v := ?_) rfl (by kernel_rfl) (by kernel_rfl) (by kernel_rfl) (by kernel_rfl) (fun _ _ _ h => h) (Or.inl ⟨by rfl, ?_⟩) (by assumption) ?_
      rotate_left 1
      · intro wz sb
        obtain ⟨y0, y1, y2⟩ := HX.out wz sb.2
        go_simp
        all_goals with_reducible rfl
      simp only [Act.put, List.setIfInBounds_toArray, List.set_cons_zero, List.set_cons_succ, List.getElem_toArray, List.getElem_cons_zero, List.getElem_cons_succ]
      refine wpAnyL_takeS (i := 2) (v := ?_) rfl (by kernel_rfl) (by kernel_rfl) (by kernel_rfl) (by kernel_rfl) (fun _ _ _ h => h) (Or.inl ⟨by rfl, ?_⟩) (by assumption) ?_
      rotate_left 1
      · intro wz _
        go_simp
        all_goals with_reducible rfl
      simp only [Act.put, List.setIfInBounds_toArray, List.set_cons_zero, List.set_cons_succ, List.getElem_toArray, List.getElem_cons_zero, List.getElem_cons_succ]
      refine wpAnyL_take [4, 8, 9, 10, 12] (i := 3) (v := ?_) rfl (by kernel_rfl) (by kernel_rfl) (by kernel_rfl) (by kernel_rfl) (fun _ _ _ h => h) (Or.inl ⟨by rfl, ?_⟩) (by assumption) ?_
      rotate_left 1
      · intro wz sb
        obtain ⟨y0, y1, y2⟩ := HX.out wz sb.2
        go_simp
        all_goals with_reducible rfl
      simp only [Act.put, List.setIfInBounds_toArray, List.set_cons_zero, List.set_cons_succ, List.getElem_toArray, List.getElem_cons_zero, List.getElem_cons_succ]
      refine wpAnyL_takeS (i := 5) (v := ?_) rfl (by kernel_rfl) (by kernel_rfl) (by kernel_rfl) (by kernel_rfl) (fun _ _ _ h => h) (Or.inl ⟨by rfl, ?_⟩) (by assumption) ?_
      rotate_left 1
      · intro wz _
        go_simp
        all_goals with_reducible rfl
      simp only [Act.put, List.setIfInBounds_toArray, List.set_cons_zero, List.set_cons_succ, List.getElem_toArray, List.getElem_cons_zero, List.getElem_cons_succ]
      refine wpAnyL_take [7, 8, 9, 10, 12] (i := 6) (v := ?_) rfl (by kernel_rfl) (by kernel_rfl) (by kernel_rfl) (by kernel_rfl) (fun _ _ _ h => h) (Or.inl ⟨by rfl, ?_⟩) (by assumption) ?_
      rotate_left 1
      · intro wz sb
        obtain ⟨y0, y1, y2⟩ := HX.out wz sb.2
        go_simp
        all_goals with_reducible rfl
      simp only [Act.put, List.setIfInBounds_toArray, List.set_cons_zero, List.set_cons_succ, List.getElem_toArray, List.getElem_cons_zero, List.getElem_cons_succ]
      refine wpAnyL_takeS (i := 7) (v := ?_) rfl (by kernel_rfl) (by kernel_rfl) (by kernel_rfl) (by kernel_rfl) (fun _ _ _ h => h) (Or.inl ⟨by rfl, ?_⟩) (by assumption) ?_
      rotate_left 1
      · intro wz _
        go_simp
        all_goals with_reducible rfl
      simp only [Act.put, List.setIfInBounds_toArray, List.set_cons_zero, List.set_cons_succ, List.getElem_toArray, List.getElem_cons_zero, List.getElem_cons_succ]
      generalize V.drew = V1 at hHeld ⊢
      refine wpAnyL_ready (rs := [4]) (by kernel_rfl) (by simp) (AllReadyL.cons rfl (fun K hK => ?_) AllReadyL.nil)
      go_simp
      have hV1 : V.heap.size ≤ V1.heap.size := hHeld.2.size
      refine (HCl.out V1 hHeld.2).mono ?_
      rintro e V2 ⟨vo, rfl, hvo, hb2⟩
      obtain ⟨vb, vbc, rfl⟩ := ownsRow_slice hvo
      refine hK.out _ _ ⟨trivial, belJ hHeld.2 hb2⟩ (fun hHeld => ?_)
      clear hK K
      refine wpAnyL_takeS (i := 8) (v := ?_) rfl (by kernel_rfl) (by kernel_rfl) (by kernel_rfl) (by kernel_rfl) (fun _ _ _ h => h) (Or.inl ⟨by rfl, ?_⟩) (by assumption) ?_
      rotate_left 1
      · intro wz _
        go_simp
        all_goals with_reducible rfl
      simp only [Act.put, List.setIfInBounds_toArray, List.set_cons_zero, List.set_cons_succ, List.getElem_toArray, List.getElem_cons_zero, List.getElem_cons_succ]
      refine wpAnyL_ready (rs := [9]) (by kernel_rfl) (by simp) (AllReadyL.cons rfl (fun K hK => ?_) AllReadyL.nil)
      go_simp
      have hbA := belA hHeld.2 (.cells #[.slice vb (st.ops m).length vbc, .bool cm] 95)
      refine hK.out _ _ ⟨trivial, hbA⟩ (fun hHeld => ?_)
      clear hK K
      have hvoA : OpP (V2.alloc (.cells #[.slice vb (st.ops m).length vbc, .bool cm] 95)) W.heap.size (.slice vb (st.ops m).length vbc) (st.ops m) := own_mono (ownsRow_same hvo fun b hb => Below.heap_alloc _ _ _ (ownsRow_block hvo b hb).2.1) (by have := HW0.out; omega)
      obtain ⟨v', Z1, hrn, htx, hg, hvv⟩ := run_appX (B := V2.heap.size) (p := (.slice vb (st.ops m).length vbc, cm)) rfl (HTx.out _ hbA) (by simp) (by simp) (by have := HW0.out; have := hbA.size; omega) (by omega) 41
      obtain ⟨va', vc', rfl⟩ := ownsRow_slice htx
      obtain ⟨R1, R2, s0, s1⟩ := HFin.out _ _ _ _ hbA hvoA htx hg hvv
      have HR1 := hideIt R1
      have HR2 := hideIt R2
      refine wpAnyL_ready (rs := [10]) (by kernel_rfl) (by simp) (AllReadyL.last rfl (by kernel_rfl) (fun K hK => ?_) AllReadyL.nil)
      refine step_append_run (by rfl) _ _ 41 (by rfl) _ _ _ Z1 (by rfl) (by rfl) hrn ?_
      refine hK.out _ _ trivial (fun hHeld => ?_)
      clear hK K
      simp only [Act.put, List.setIfInBounds_toArray, List.set_cons_zero, List.set_cons_succ, List.getElem_toArray, List.getElem_cons_zero, List.getElem_cons_succ]
      clear R1 R2 htx hg hvv hrn hbA hvoA hvo
      generalize (ps ++ [_]).length = ln at *
      refine wpAnyL_takeE (i := 11) (v := ?_) rfl (by kernel_rfl) (by kernel_rfl) (by kernel_rfl) (by kernel_rfl) (by kernel_rfl) (fun _ _ _ h => h) (Or.inl ⟨by rfl, ?_⟩) (by assumption) ?_
      rotate_left 1
      · intro wz _
        go_simp
        all_goals with_reducible rfl
      simp only [Act.put, List.setIfInBounds_toArray, List.set_cons_zero, List.set_cons_succ, List.getElem_toArray, List.getElem_cons_zero, List.getElem_cons_succ]
      refine wpAnyL_ready (rs := [12]) (by kernel_rfl) (by simp) (AllReadyL.last rfl (by kernel_rfl) (fun K hK => ?_) AllReadyL.nil)
      go_simp
      refine hK.out _ _ trivial (fun hHeld => ?_)
      clear hK K
      refine wpAnyL_done (by kernel_rfl) ?_ _
      go_wp2
      go_roundw
      case rel => exact ⟨m + 1, by omega, by go_num, HR1.out, HR2.out⟩
      case measure => simp [intOf]; omega
    · have hmn' : ¬ (m : Int) < (n : Int) := by omega
      have hme : m = n := by omega
      subst hme
      have hpw := HP.out.below hs.bel
      have l3 := hpw.cells.2.2.2 0 (by omega)
      have l4 := hpw.cells.2.2.2 1 (by omega)
      have l5 := hpw.cells.2.2.2 2 (by omega)
      have l6 := hpw.cells.2.2.2 3 (by omega)
      have l7 := hpw.cells.2.2.2 4 (by omega)
      have l8 := hpw.cells.2.2.2 5 (by omega)
      have l9 := hpw.cells.2.2.2 6 (by omega)
      have l10 := hpw.cells.2.2.2 7 (by omega)
      simp only [Nat.reduceAdd] at l3 l4 l5 l6 l7 l8 l9 l10
      clear hs hr
      go_wp2
      clear l3 l4 l5 l6 l7 l8 l9 l10
      go_loopw [39] (fun v wz => ∃ j : Nat, j ≤ 8 ∧ v = .int .i64 j ∧ StP W wz (W.heap.size + 1 + 1) (W.heap.size + 1) st m j ∧ wz.heap[W.heap.size]? = some (.cells #[.slice none 0 0, .slice none 0 0] 44 (0, 0))) (fun v _ => 8 - (intOf v).toNat)
      case atStart => exact ⟨0, Nat.zero_le _, rfl, HS.out, HR.out⟩
      case round =>
        clear HS HR
        obtain ⟨j, hj, rfl, hs, hr⟩ := hrel
        have HS := hideIt hs
        have HR := hideIt hr
        by_cases hj8 : j < 8
        · have hj8' : (j : Int) < 8 := by omega
          have hix := idx68 k.vr wr j hj8
          obtain ⟨v, ps, h1, _⟩ := hs.tx
          have z1 : wr.cell? ⟨W.heap.size + 1 + 1, 1, none⟩ = some (.slice (some ⟨W.heap.size + 1, 0, none⟩) 8 8) := by rw [cell_of_row _ _ _ _ 44 _ h1]; rfl
          have HX : Hid (∀ Y, Below wr.heap.size wr Y → Y.cell? ⟨W.heap.size + 1 + 1, 1, none⟩ = some (.slice (some ⟨W.heap.size + 1, 0, none⟩) 8 8)) := fun Y hY => (hY.cell (p := ⟨W.heap.size + 1 + 1, 1, none⟩) (lt_of_heap h1)).trans z1
          have HCl : Hid (∀ Y, Below wr.heap.size wr Y → Calls Tryd.prog 33 #[k.vr j] Y fun e W' => ∃ v', e = .returned v' ∧ W'.ownsRow Y.heap.size 3 1 v' (st.ord j).length (numD (st.ord j)) ∧ Below Y.heap.size Y W') := fun Y hY => cloneI_any ((HP.out.below (belJ hs.bel hY)).rw_ j hj8) (HOl.out j hj8)
          have HW0 : Hid (W.heap.size ≤ wr.heap.size) := hs.bel.size
          clear z1 h1 hs hr
          generalize k.vr j = vj at *
          go_upto_region 12 with fail
          refine wp_region_L (B := [6]) (S := (fun _ => True)) (T := (fun w' => Below wr.heap.size wr w')) (by kernel_rfl) ⟨trivial, (Below.refl _ _).drew⟩ (fun hHeld => ?_)
          refine wpAnyL_takeS (i := 0) (v := ?_) rfl (by kernel_rfl) (by kernel_rfl) (by kernel_rfl) (by kernel_rfl) (fun _ _ _ h => h) (Or.inl ⟨by rfl, ?_⟩) (by assumption) ?_
          rotate_left 1
          · intro wz _
            go_simp
            all_goals with_reducible rfl
          simp only [Act.put, List.setIfInBounds_toArray, List.set_cons_zero, List.set_cons_succ, List.getElem_toArray, List.getElem_cons_zero]
          refine wpAnyL_take [5, 6] (i := 1) (v := ?_) rfl (by kernel_rfl) (by kernel_rfl) (by kernel_rfl) (by kernel_rfl) (fun _ _ _ h => h) (Or.inl ⟨by rfl, ?_⟩) (by assumption) ?_
          rotate_left 1
          · intro wz sb
            have y0 := HX.out wz sb.2
            go_simp
            all_goals with_reducible rfl
          simp only [Act.put, List.setIfInBounds_toArray, List.set_cons_zero, List.set_cons_succ, List.getElem_toArray, List.getElem_cons_zero, List.getElem_cons_succ]
          refine wpAnyL_takeS (i := 2) (v := ?_) rfl (by kernel_rfl) (by kernel_rfl) (by kernel_rfl) (by kernel_rfl) (fun _ _ _ h => h) (Or.inl ⟨by rfl, ?_⟩) (by assumption) ?_
          rotate_left 1
          · intro wz _
            go_simp
            all_goals with_reducible rfl
          simp only [Act.put, List.setIfInBounds_toArray, List.set_cons_zero, List.set_cons_succ, List.getElem_toArray, List.getElem_cons_zero, List.getElem_cons_succ]
          refine wpAnyL_takeS (i := 3) (v := ?_) rfl (by kernel_rfl) (by kernel_rfl) (by kernel_rfl) (by kernel_rfl) (fun _ _ _ h => h) (Or.inl ⟨by rfl, ?_⟩) (by assumption) ?_
          rotate_left 1
          · intro wz _
            go_simp
            all_goals with_reducible rfl
          simp only [Act.put, List.setIfInBounds_toArray, List.set_cons_zero, List.set_cons_succ, List.getElem_toArray, List.getElem_cons_zero, List.getElem_cons_succ]
          generalize wr.drew = V1 at hHeld ⊢
          refine wpAnyL_ready (rs := [4]) (by kernel_rfl) (by simp) (AllReadyL.cons rfl (fun K hK => ?_) AllReadyL.nil)
          go_simp
          have hV1 : wr.heap.size ≤ V1.heap.size := hHeld.2.size
          refine (HCl.out V1 hHeld.2).mono ?_
          rintro e V2 ⟨vo, rfl, hvo, hb2⟩
          obtain ⟨vb, vbc, rfl⟩ := ownsRow_slice hvo
          have hB2 := belJ hHeld.2 hb2
          refine hK.out _ _ ⟨trivial, hB2⟩ (fun hHeld => ?_)
          clear hK K
          obtain ⟨R1, s1, u, s0⟩ := (HS.out.below hB2).pushL hj8 rfl (own_mono hvo (by have := HW0.out; omega))
          have HR1 := hideIt R1
          have HR2 : Hid ((V2.setCell ⟨W.heap.size + 1, j, none⟩ (.slice vb (st.ord j).length vbc)).heap[W.heap.size]? = some (.cells #[.slice none 0 0, .slice none 0 0] 44 (0, 0))) := (Below.heap_setCell _ ⟨W.heap.size + 1, j, none⟩ _ _ (by show W.heap.size ≠ W.heap.size + 1; omega)).trans ((hB2.block _ (lt_of_heap HR.out)).trans HR.out)
          clear R1 hvo
          refine wpAnyL_takeS (i := 5) (v := ?_) rfl (by kernel_rfl) (by kernel_rfl) (by kernel_rfl) (by kernel_rfl) (fun _ _ _ h => h) (Or.inl ⟨by rfl, ?_⟩) (by assumption) ?_
          rotate_left 1
          · intro wz _
            go_simp
            all_goals with_reducible rfl
          simp only [Act.put, List.setIfInBounds_toArray, List.set_cons_zero, List.set_cons_succ, List.getElem_toArray, List.getElem_cons_zero, List.getElem_cons_succ]
          refine wpAnyL_ready (rs := [6]) (by kernel_rfl) (by simp) (AllReadyL.last rfl (by kernel_rfl) (fun K hK => ?_) AllReadyL.nil)
          go_simp
          refine hK.out _ _ trivial (fun hHeld => ?_)
          clear hK K
          refine wpAnyL_done (by kernel_rfl) ?_ _
          go_wp2
          go_roundw
          case rel => exact ⟨j + 1, by omega, by go_num, HR1.out, HR2.out⟩
          case measure => simp [intOf]; omega
        · have hj8' : ¬ (j : Int) < 8 := by omega
          obtain rfl : j = 8 := by omega
          obtain ⟨a, ca, b, cb, e1, _⟩ := hs.done HI.out hn HOl.out
          have s0 : wr.cell? ⟨W.heap.size + 1 + 1, 0, none⟩ = some (.slice a (mvSt m st).txs.length ca) := by rw [cell_of_row _ _ _ _ 44 _ e1]; rfl
          have s1 : wr.cell? ⟨W.heap.size + 1 + 1, 1, none⟩ = some (.slice b (mvSt m st).ord.length cb) := by rw [cell_of_row _ _ _ _ 44 _ e1]; rfl
          have r0 : wr.cell? ⟨W.heap.size, 0, none⟩ = some (.slice none 0 0) := by rw [cell_of_row _ _ _ _ 44 _ hr]; rfl
          have r1 : wr.cell? ⟨W.heap.size, 1, none⟩ = some (.slice none 0 0) := by rw [cell_of_row _ _ _ _ 44 _ hr]; rfl
          have fr := fun i => frozen_of_row wr W.heap.size i _ 44 hr
          have hG : ((wr.setCell ⟨W.heap.size, 0, none⟩ (.slice a (mvSt m st).txs.length ca)).setCell ⟨W.heap.size, 1, none⟩ (.slice b (mvSt m st).ord.length cb)).heap[W.heap.size]? = some (.cells #[.slice a (mvSt m st).txs.length ca, .slice b (mvSt m st).ord.length cb] 44 (0, 0)) := heap_setCell_same _ W.heap.size 1 _ 44 _ (heap_setCell_same _ W.heap.size 0 _ 44 _ hr)
          have hBf := (hs.bel.setCell (p := ⟨W.heap.size, 0, none⟩) (Nat.le_refl _) (.slice a (mvSt m st).txs.length ca)).setCell (p := ⟨W.heap.size, 1, none⟩) (Nat.le_refl _) (.slice b (mvSt m st).ord.length cb)
          have hSf := hs.other (R := W.heap.size) (by rw [hr]; rfl) (by omega) (fun q hq => (Below.heap_setCell _ ⟨W.heap.size, 1, none⟩ _ q hq).trans (Below.heap_setCell _ ⟨W.heap.size, 0, none⟩ _ q hq)) hBf
          obtain ⟨a', ca', b', cb', e1', hq⟩ := hSf.done HI.out hn HOl.out
          have e2 : ((wr.setCell ⟨W.heap.size, 0, none⟩ (.slice a (mvSt m st).txs.length ca)).setCell ⟨W.heap.size, 1, none⟩ (.slice b (mvSt m st).ord.length cb)).heap[W.heap.size + 1 + 1]? = some (.cells #[.slice a (mvSt m st).txs.length ca, .slice b (mvSt m st).ord.length cb] 44 (0, 0)) := ((Below.heap_setCell _ ⟨W.heap.size, 1, none⟩ _ _ (by show W.heap.size + 1 + 1 ≠ W.heap.size; omega)).trans (Below.heap_setCell _ ⟨W.heap.size, 0, none⟩ _ _ (by show W.heap.size + 1 + 1 ≠ W.heap.size; omega))).trans e1
          rw [e2] at e1'
          obtain ⟨rfl, rfl, rfl, rfl⟩ : a' = a ∧ ca' = ca ∧ b' = b ∧ cb' = cb := by
            simp at e1'
            exact ⟨e1'.1.1.symm, e1'.1.2.symm, e1'.2.1.symm, e1'.2.2.symm⟩
          have HG := hideIt hG
          have HBf := hideIt hBf
          have HQ := hideIt hq
          clear hs hr hG hBf hSf hq e1 e2 e1' HS HR
          go_wp2
          refine bodyPost_ret (results_one rfl _ _ W.heap.size _ rfl (two_load HG.out)) rfl ?_
          exact ⟨_, _, _, _, rfl, HQ.out, HBf.out⟩
end
end Go.Proofs.YtaopigjhdkdklaaDoor
