/-
  What is run call by call, in plain Lean; a row of ops of one's own.
-/
import Derived.Test.YtcfomkogojggnaaDoorRunsWalk
namespace Go.Proofs.YtcfomkogojggnaaDoor
open Go.RowKit

def ordL (n : Nat) : List Int := (List.range n).map fun (i : Nat) => (i : Int)
theorem ordL_len (n : Nat) : (ordL n).length = n := by simp [ordL]
theorem ordL_succ (n : Nat) : ordL (n + 1) = ordL n ++ [(n : Int)] := by simp [ordL, List.range_succ]
theorem ordL_get {n j : Nat} (h : j < n) : (ordL n)[j]? = some (j : Int) := by simp [ordL, h]

theorem bind_at {L : List Opn} {j : Nat} (h : j < L.length) : ((ordL L.length)[j]?).bind (opOf L) = some L[j] := by
  rw [ordL_get h]; exact opOf_at h
theorem bind_snoc {L : List Opn} {op : Opn} {j : Nat} (h : j < L.length) : ((ordL (L ++ [op]).length)[j]?).bind (opOf (L ++ [op])) = some L[j] := by
  rw [bind_at (L := L ++ [op]) (by simp; omega), List.getElem_append_left h]
theorem bind_last {L : List Opn} {op : Opn} : ((ordL (L ++ [op]).length)[L.length]?).bind (opOf (L ++ [op])) = some op := by
  rw [bind_at (L := L ++ [op]) (by simp)]; simp

theorem sAt_snoc (o : Int) (L : List Opn) (op : Opn) : ∀ j, j ≤ L.length → sAt o (L ++ [op]) (ordL (L ++ [op]).length) j = sAt o L (ordL L.length) j
  | 0, _ => rfl
  | j + 1, h => by
    rw [sAt_succ (bind_snoc (by omega)), sAt_succ (bind_at (by omega)), sAt_snoc o L op j (by omega)]
theorem fineAt_snoc (o : Int) (L : List Opn) (op : Opn) {j : Nat} (h : j < L.length) : fineAt o (L ++ [op]) (ordL (L ++ [op]).length) j = fineAt o L (ordL L.length) j := by
  rw [fineAt_some (bind_snoc h), fineAt_some (bind_at h), sAt_snoc o L op j (by omega)]

/-- Ops that were made call by call: each tells what Step gave; the state behind them. -/
def Made (o : Int) (L : List Opn) (st : List Int) : Prop :=
  (∀ j, j < L.length → fineAt o L (ordL L.length) j = true) ∧ sAt o L (ordL L.length) L.length 0 = st ∧ ∀ op ∈ L, op.k = 0

theorem made_nil (o : Int) : Made o [] (startL o) := ⟨fun j h => by simp at h, rfl, fun op h => by cases h⟩
theorem made_snoc {o : Int} {L : List Opn} {st st' : List Int} {op : Opn} (h : Made o L st) (hk : op.k = 0) (hs : stepM o st op.d op.a op.b = some (st', op.r)) : Made o (L ++ [op]) st' := by
  obtain ⟨h1, h2, h3⟩ := h
  have hs' : stepM o (sAt o L (ordL L.length) L.length op.k) op.d op.a op.b = some (st', op.r) := by rw [hk, h2]; exact hs
  refine ⟨fun j hj => ?_, ?_, fun x hx => ?_⟩
  · by_cases e : j < L.length
    · rw [fineAt_snoc o L op e]; exact h1 j e
    · obtain rfl : j = L.length := by simp at hj; omega
      rw [fineAt_some bind_last, sAt_snoc o L op _ (Nat.le_refl _), opFine_some hs']; simp
  · have : (L ++ [op]).length = L.length + 1 := by simp
    have e : sAt o (L ++ [op]) (ordL (L ++ [op]).length) (L.length + 1) = after o (sAt o L (ordL L.length) L.length) op := by
      rw [sAt_succ bind_last, sAt_snoc o L op _ (Nat.le_refl _)]
    rw [show sAt o (L ++ [op]) (ordL (L ++ [op]).length) (L ++ [op]).length = sAt o (L ++ [op]) (ordL (L ++ [op]).length) (L.length + 1) by rw [this], e, after_some hs', hk, setK_same]
  · rcases List.mem_append.1 hx with hx | hx
    · exact h3 x hx
    · rw [List.mem_singleton.1 hx]; exact hk
theorem made_run {o : Int} {L : List Opn} {st : List Int} (h : Made o L st) {z : Int} (hz : RunTold o L (ordL L.length) z) : z = -1 :=
  runTold_one hz (.inr ⟨fun j hj => h.1 j (by rw [ordL_len] at hj; exact hj), rfl⟩)
/-- The last told something else: that is found. -/
theorem made_bad {o : Int} {L : List Opn} {op op' : Opn} {st : List Int} (h : Made o (L ++ [op]) st) (hk : op'.k = op.k) (hd : op'.d = op.d) (ha : op'.a = op.a) (hb : op'.b = op.b) (he : op'.e = op.e) (he0 : 0 ≤ op.e) (hr : op'.r ≠ op.r) {z : Int} (hz : RunTold o (L ++ [op']) (ordL (L ++ [op']).length) z) : z = (L.length : Nat) := by
  refine runTold_one hz (.inl ⟨L.length, by rw [ordL_len]; simp, fun j hj => ?_, ?_, rfl⟩)
  · rw [fineAt_snoc o L op' hj, ← fineAt_snoc o L op hj]
    exact h.1 j (by simp; omega)
  · have hf := h.1 L.length (by simp)
    rw [fineAt_some bind_last, sAt_snoc o L op _ (Nat.le_refl _)] at hf
    rw [fineAt_some bind_last, sAt_snoc o L op' _ (Nat.le_refl _)]
    unfold opFine at hf ⊢
    rw [hk, hd, ha, hb]
    cases hst : stepM o (sAt o L (ordL L.length) L.length op.k) op.d op.a op.b with
    | none => rfl
    | some p =>
      rw [hst] at hf
      simp only at hf ⊢
      have e1 : decide (op.e < 0) = false := by simp; omega
      rw [he, e1]
      rw [e1] at hf
      have : op.r = p.2 := by simpa using hf
      simp
      rw [← this]
      exact hr
theorem made_rises {L : List Opn} {st : List Int} (h : Made 3 L st) : st.Pairwise (· < ·) := by rw [← h.2.1]; exact sAt_rises _ _ _ _
theorem made_len {o : Int} {L : List Opn} {st : List Int} (h : Made o L st) : st.length ≤ L.length + 1 := by rw [← h.2.1]; exact sAt_len _ _ _ _ _

def Opn.list (x : Opn) : List Value := [.int .i64 x.p, .int .i64 x.k, .int .i64 x.d, .int .i64 x.a, .int .i64 x.b, .int .i64 x.r, .int .i64 x.c, .int .i64 x.e]
def opCells (l : List Opn) : List Value := l.flatMap Opn.list
theorem opCells_snoc (l : List Opn) (x : Opn) : opCells (l ++ [x]) = opCells l ++ x.list := by simp [opCells]
theorem opList_len (x : Opn) : x.list.length = 8 := rfl
theorem opCells_get (L : List Opn) (i c : Nat) (hi : i < L.length) (hc : c < 8) : (opCells L)[i * 8 + c]? = L[i].list[c]? := by
  induction L generalizing i with
  | nil => simp at hi
  | cons x r ih =>
    show (x.list ++ opCells r)[i * 8 + c]? = _
    cases i with
    | zero =>
      rw [List.getElem?_append_left (by rw [opList_len]; omega)]
      simp
    | succ i =>
      rw [List.getElem?_append_right (by rw [opList_len]; omega), opList_len, show (i + 1) * 8 + c - 8 = i * 8 + c from by omega, ih i (by simpa using hi)]
      simp

/-- A row of ops of one's own. -/
abbrev OwnO (w : World) (base : Nat) (v : Value) (L : List Opn) : Prop := w.ownsRow base 57 8 v L.length (opCells L)
theorem OwnO.kept {w w' : World} {base : Nat} {v : Value} {L : List Opn} {row : Option Nat} (h : OwnO w base v L) (hg : w.grownBy w' row) (hne : v.ownBlock = none ∨ v.ownBlock ≠ row) : OwnO w' base v L := World.ownsRow.kept h hg hne
theorem ownO_at {w : World} {g : Nat} {cur : Array Value} {L : List Opn} (hg : w.heap[g]? = some (.cells cur 57 (0, 0))) (h : cur.toList.take (L.length * 8) = opCells L) {i : Nat} (hi : i < L.length) : OpAt w g (0 + i * 8) L[i] := by
  have hc : ∀ c, c < 8 → w.cell? ⟨g, 0 + i * 8 + c, none⟩ = L[i].list[c]? := fun c hc => by
    rw [cell_of_row w g _ cur 57 (0, 0) hg, ← opCells_get L i c hi hc, ← h, List.getElem?_take_of_lt (by omega)]
    simp
  exact ⟨hc 0 (by decide), hc 1 (by decide), hc 2 (by decide), hc 3 (by decide), hc 4 (by decide), hc 5 (by decide), hc 6 (by decide), hc 7 (by decide)⟩
theorem OwnO.has {w : World} {base : Nat} {v : Value} {L : List Opn} (h : OwnO w base v L) : HasOps w v L := by
  obtain ⟨_, ⟨rfl, h0⟩ | ⟨g, cap, cur, rfl, _, hg, h1, h2, _, h4⟩⟩ := h
  · obtain rfl : L = [] := List.length_eq_zero_iff.1 h0
    exact ⟨none, 0, rfl, by decide, .inl rfl⟩
  · exact ⟨_, cap, rfl, by omega, .inr ⟨g, 0, rfl, fun i hi => ownO_at hg h4 hi⟩⟩

theorem info57 : (Tryd.prog.info? 57).map (fun i => (i.zero, i.size, i.bytes)) = some (some (.agg #[.int .i64 0, .int .i64 0, .int .i64 0, .int .i64 0, .int .i64 0, .int .i64 0, .int .i64 0, .int .i64 0]), 8, 64) := by kernel_rfl

/-- An op appended. -/
theorem run_appO {w : World} {base B : Nat} {v : Value} {L : List Opn} {op : Opn} (hown : OwnO w base v L) (hB : OpAt w B 0 op) (hb : base ≤ w.heap.size) (hlen : L.length ≤ 1000) (ty : TypeId) :
    ∃ v' w', (Builtin.append_ #[23, 23] ty #[v, .slice (some ⟨B, 0, none⟩) 1 1]).run Tryd.prog w = .ok v' w' ∧ OwnO w' base v' (L ++ [op]) ∧ w.grownBy w' v.ownBlock ∧ (v'.ownBlock = v.ownBlock ∨ v'.ownBlock = some w.heap.size) := by
  obtain ⟨i, hi, hz, hsz, hby⟩ := info_parts info57
  have hnews : ∀ j u, op.list[j]? = some u → w.cell? ((⟨B, 0, none⟩ : Addr).add j) = some u := by
    intro j u hj
    rw [Addr.add_lit]
    obtain ⟨h0, h1, h2, h3, h4, h5, h6, h7⟩ := hB
    match j, hj with
    | 0, hj | 1, hj | 2, hj | 3, hj | 4, hj | 5, hj | 6, hj | 7, hj =>
      simp [Opn.list] at hj; subst hj; assumption
  obtain ⟨v', w', hr, ho, hg, _, hob⟩ := run_append_own_at (P := Tryd.prog) (w := w) base 23 ty 57 i _ 8 64 Tryd.underlying23 hi hz hsz hby rfl (by decide) v _ _ hown ⟨B, 0, none⟩ 1 1 op.list rfl hnews (by simp [Opn.list, Value.oneCell']) (by unfold maxLen; omega) (by omega) hb
  exact ⟨v', w', hr, by show w'.ownsRow base 57 8 v' (L ++ [op]).length _; rw [opCells_snoc, List.length_append]; exact ho, hg, hob⟩

/-- A number appended, and where. -/
theorem run_app1 {w : World} {base B : Nat} {v : Value} {st : List Int} {x : Int} (hown : Own w base v st) (hB : w.cell? ⟨B, 0, none⟩ = some (.int .i64 x)) (hb : base ≤ w.heap.size) (hlen : st.length ≤ 1000) (ty : TypeId) :
    ∃ v' w', (Builtin.append_ #[47, 47] ty #[v, .slice (some ⟨B, 0, none⟩) 1 1]).run Tryd.prog w = .ok v' w' ∧ Own w' base v' (st ++ [x]) ∧ w.grownBy w' v.ownBlock ∧ (v'.ownBlock = v.ownBlock ∨ v'.ownBlock = some w.heap.size) := by
  obtain ⟨i, hi, hz, hsz, hby⟩ := info_parts info3
  have hnews : ∀ j u, [Value.int .i64 x][j]? = some u → w.cell? ((⟨B, 0, none⟩ : Addr).add j) = some u := by
    intro j u hj
    match j, hj with
    | 0, hj => simp at hj; subst hj; simpa [Addr.add] using hB
  obtain ⟨v', w', hr, ho, hg, _, hob⟩ := run_append_own_at (P := Tryd.prog) (w := w) base 47 ty 3 i _ 1 8 Tryd.underlying47 hi hz hsz hby rfl (by decide) v _ _ hown ⟨B, 0, none⟩ 1 1 [.int .i64 x] rfl hnews (by simp [Value.oneCell']) (by unfold maxLen; omega) (by omega) hb
  exact ⟨v', w', hr, by show w'.ownsRow base 3 1 v' (st ++ [x]).length ((st ++ [x]).map _); rw [List.length_append, List.map_append]; exact ho, hg, hob⟩

end Go.Proofs.YtcfomkogojggnaaDoor
