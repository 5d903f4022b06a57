/-
  The document's store: what Deliver is made of: its map's keys, a letter in its row, who can talk.
  The document's store: links built row by row, and laid anew.
-/
import Derived.Test.YtncnojgemmcplaaGreatDoorDwJ
import Derived.Test.YtncnojgemmcplaaGreatDoorNlPZ
namespace Go.Proofs.YtncnojgemmcplaaGreatDoor.St.Dc
open Go.RowKit Go.WideMaps Go.ChangeMaps Go.WideShapes
open Go.Maps (Keyed IsMap)

theorem laidOutD : laidOutB Tryz.prog = true := by kernel_rfl
theorem cellsInt1D : Tryz.prog.cellsOf 3 = 1 := by kernel_rfl
theorem rowPairD : (145 : TypeId) < Tryz.prog.types.size := of_decide_eq_true (by kernel_rfl)
theorem cellsPairD : Tryz.prog.cellsOf 145 = 2 := by kernel_rfl
theorem deepPairD : Tryz.prog.keyType 145 = true := by kernel_rfl
theorem widePairD : (match Tryz.prog.underlying 145 with | some (.array _ _) | some (.struct _) => true | _ => false) = true := by kernel_rfl
set_option maxRecDepth 100000 in
theorem keyedPairD : Keyed Tryz.prog 145 := Keyed.of_law (deep_law_laid laidOutD (m := 3) (by omega) rowPairD (by kernel_rfl) widePairD)
theorem pair_someD (a b : Int) (h : Wf2 a b) : (keyOf Tryz.prog 145 (pairV a b)).isSome = true := by
  obtain ⟨n, hn⟩ : ∃ n, Tryz.prog.types.size = n := ⟨_, rfl⟩
  have hpos : (145 : Nat) < n := by rw [← hn]; exact rowPairD
  obtain ⟨m, rfl⟩ : ∃ m, n = m + 1 := ⟨n - 1, by omega⟩
  have e3 : ∀ m x, (Lit.int .i64 x).wf = true → Tryz.prog.keyLits (m + 1) 3 [.int .i64 x] = some [.int .i64 x] := fun m x hx => by
    unfold Program.keyLits
    rw [Tryz.underlying3]
    simp [hx]
  have e : Tryz.prog.keyLits (m + 1 + 1) 145 [.int .i64 a, .int .i64 b] = some [.int .i64 a, .int .i64 b] := by
    unfold Program.keyLits
    rw [Tryz.underlying145]
    simp only [cellsPairD, cellsInt1D]
    rw [show List.range 2 = [0, 1] from rfl]
    have e0 := e3 m a h.1
    have e1 := e3 m b h.2
    simp [e0, e1]
  have hf : (pairV a b).formed Tryz.prog 145 = true := by
    unfold pairV
    simp [Value.formed, Tryz.underlying145, cellsPairD]
  unfold keyOf
  rw [Tryz.underlying145]
  simp only [deepPairD, hf, hn, Bool.and_self, if_true]
  rw [show (pairV a b).cells.toList = [.int .i64 a, .int .i64 b] from rfl, e]
  rfl
theorem pairKD : PairK Tryz.prog 145 := ⟨keyedPairD, pair_someD⟩
theorem zeroHd (w : World) : (zeroValue 105).run Tryz.prog w = .ok (hdV ⟨⟨0, 0⟩, 0⟩) w := by kernel_rfl
theorem wf_small {a b : Int} (ha : 0 ≤ a ∧ a < 1000) (hb : 0 ≤ b ∧ b < 1000) : Wf2 a b := by
  exact ⟨WalkArith.wf_i64 (by omega), WalkArith.wf_i64 (by omega)⟩
/-- A map with few keys. -/
theorem few_of {f : Int → Int → Option Hd} (h : ∀ a b : Int, (f a b).isSome = true → (0 ≤ a ∧ a < 7) ∧ 0 ≤ b ∧ b < 8) : Few 100000 f := by
  refine ⟨(List.range 7).flatMap fun (a : Nat) => (List.range 8).map fun (b : Nat) => ((a : Int), (b : Int)), by decide, fun a b hab => ?_⟩
  obtain ⟨⟨h1, h2⟩, h3, h4⟩ := h a b hab
  refine List.mem_flatMap.2 ⟨a.toNat, List.mem_range.2 (by omega), List.mem_map.2 ⟨b.toNat, List.mem_range.2 (by omega), ?_⟩⟩
  rw [Int.toNat_of_nonneg h1, Int.toNat_of_nonneg h3]
section
variable {w0 W : World} {K : DoK} {S : Sto}
theorem ltCs_at : ∀ {l : List Ltr} {k : Nat} {x : Ltr}, l[k]? = some x → ∀ j, j < 7 → (ltCs l)[k * 7 + j]? = (ltC x)[j]?
  | [], k, x, h, _, _ => by simp at h
  | y :: l, 0, x, h, j, hj => by
    have e : y = x := by simpa using h
    subst e
    show (ltC y ++ ltCs l)[0 * 7 + j]? = _
    rw [List.getElem?_append_left (by simp [ltC]; omega)]
    simp
  | y :: l, k + 1, x, h, j, hj => by
    have e : l[k]? = some x := by simpa using h
    show (ltC y ++ ltCs l)[(k + 1) * 7 + j]? = _
    rw [List.getElem?_append_right (by simp [ltC]; omega), show (k + 1) * 7 + j - (ltC y).length = k * 7 + j by simp [ltC]; omega]
    exact ltCs_at e j hj
/-- A letter in its row. -/
theorem letter_at (h : DoR w0 W K S) {k : Nat} {l : Ltr} (hk : K.lt[k]? = some l) : ∃ g c, K.vl = .slice (some ⟨g, 0, none⟩) K.lt.length c ∧ g < W.heap.size ∧ ∀ Z : World, Z.heap[g]? = W.heap[g]? → Z.cell? ⟨g, k * 7, none⟩ = some (.int .i64 l.c) ∧ Z.cell? ⟨g, k * 7 + 1, none⟩ = some (.int .i64 l.key) ∧ Z.cell? ⟨g, k * 7 + 2, none⟩ = some (.int .i64 l.rd) ∧ Z.cell? ⟨g, k * 7 + 3, none⟩ = some (.bool l.tells) ∧ Z.cell? ⟨g, k * 7 + 4, none⟩ = some (.int .i64 l.h.s.t) ∧ Z.cell? ⟨g, k * 7 + 5, none⟩ = some (.int .i64 l.h.s.c) ∧ Z.cell? ⟨g, k * 7 + 6, none⟩ = some (.int .i64 l.h.v) := by
  have hlt : k < K.lt.length := (List.getElem?_eq_some_iff.1 hk).1
  have hr : W.ownsRow w0.heap.size 144 7 K.vl K.lt.length (ltCs K.lt) := h.facts .vl trivial
  rcases own_cells hr with ⟨_, h0⟩ | ⟨g, cap, e, _, _, _⟩
  · omega
  · refine ⟨g, cap, e, ((h.facts .vl trivial).blk (b := g) (by show K.vl.ownBlock = _; rw [e]; rfl)).2.1, fun Z hZ => ?_⟩
    have hc := hr.cells (g := g) (by rw [e]; rfl)
    have key : ∀ j u, j < 7 → (Dc.ltC l)[j]? = some u → Z.cell? ⟨g, k * 7 + j, none⟩ = some u := fun j u hj hu => by
      have := hc (k * 7 + j) u ((ltCs_at hk j hj).trans hu)
      rw [World.cell?_of_block (a := ⟨g, k * 7 + j, none⟩) hZ]
      have e2 : (⟨g, 0, none⟩ : Addr).add (k * 7 + j) = ⟨g, k * 7 + j, none⟩ := by
        unfold Addr.add
        split
        · rename_i h0; rw [h0]
        · simp
      rw [e2] at this
      exact this
    exact ⟨key 0 _ (by omega) rfl, key 1 _ (by omega) rfl, key 2 _ (by omega) rfl, key 3 _ (by omega) rfl, key 4 _ (by omega) rfl, key 5 _ (by omega) rfl, key 6 _ (by omega) rfl⟩
theorem lnkT_q {lv : Value} {M : List (List Bool)} (h : LnkT W lv M) : LnkQ W lv M := by
  obtain ⟨a, cap, e, h⟩ := h
  refine ⟨a, cap, e, h.imp id fun ⟨g, off, e, _, h⟩ => ⟨g, off, e, fun i hi => ?_⟩⟩
  obtain ⟨ra, rc, h1, h2⟩ := h i hi
  exact ⟨ra, rc, h1, h2.imp id fun ⟨r1, ro, e, _, h⟩ => ⟨r1, ro, e, h⟩⟩
/-- Take. -/
theorem DoR.take (h : DoR w0 W K S) (h5 : K.L.length ≤ 500) (i : Int) : Calls Tryz.prog 68 #[.pointer (some ⟨K.B, 5, none⟩), .int .i64 i] W fun e w' => TakeTold K.B 5 K.cut K.LM K.L i W e w' :=
  take_any i _ _ _ _ _ _ _ _ h5 _ h.net fun hc => lnkT_q (h.lk hc)
theorem DoPl.take_bad (hp : DoPl K S) {i : Int} (h : i < 0 ∨ (K.L.length : Int) ≤ i) : takeE S i = 8 := by
  have := hp.len
  unfold takeE
  rw [if_pos (by omega)]
theorem DoPl.take_at (hp : DoPl K S) {k : Nat} {m : Md} (hm : K.L[k]? = some m) : S.mails[k]? = some (mlOf K.lt m) ∧ takeE S k = if openL K.cut K.LM m.fr m.to = true then 0 else 6 := by
  have h1 : k < K.L.length := (List.getElem?_eq_some_iff.1 hm).1
  have h2 : S.mails[k]? = some (mlOf K.lt m) := by rw [hp.ms, List.getElem?_map, hm]; rfl
  refine ⟨h2, ?_⟩
  have := hp.len
  unfold takeE
  rw [if_neg (by omega), Int.toNat_natCast, h2]
  show (if S.links m.fr m.to = true then (0 : Int) else 6) = _
  rw [hp.lk]
/-- What a node has. -/
theorem DoPl.put (hp : DoPl K S) {a b : Int} (ha : 0 ≤ a ∧ a < 7) (hb : 0 ≤ b ∧ b < 8) (x : Hd) : DoPl { K with f := putK2 K.f a b x } { S with has := updH S.has a b x } := by
  refine ⟨hp.ms, hp.wh, fun p q => ?_, fun p q h => ?_, hp.lk⟩
  · show updH S.has a b x p q = (putK2 K.f a b x p q).getD hd0
    unfold updH
    by_cases e : p = a ∧ q = b
    · rw [if_pos e, e.1, e.2, putK2_same]; rfl
    · rw [if_neg e, putK2_other _ _ _ _ _ _ e]; exact hp.hs p q
  · have h' : (putK2 K.f a b x p q).isSome = true := h
    by_cases e : p = a ∧ q = b
    · rw [e.1, e.2]; exact ⟨ha, hb⟩
    · rw [putK2_other _ _ _ _ _ _ e] at h'; exact hp.fw p q h'
end
end Go.Proofs.YtncnojgemmcplaaGreatDoor.St.Dc

namespace Go.Proofs.YtncnojgemmcplaaGreatDoor.St.Dc
open Go.RowKit

/-- The first m rows of a table. -/
def tabM (m n : Nat) (r : Nat → Nat → Bool) : List (List Bool) := (List.range m).map fun a => (List.range n).map fun b => r a b
def bitR (n : Nat) (r : Nat → Bool) : List Value := bitC ((List.range n).map r)
theorem bitR_succ (n : Nat) (r : Nat → Bool) : bitR (n + 1) r = bitR n r ++ [.bool (r n)] := by simp [bitR, bitC, List.range_succ]
theorem bitR_at {n : Nat} {r : Nat → Bool} {j : Nat} (h : j < n) : (bitR n r)[j]? = some (.bool (r j)) := by simp [bitR, bitC, h]
/-- A table that is built: rows of bools, each its own. -/
structure TbG (W : World) (base : Nat) (v : Value) (m n : Nat) (r : Nat → Nat → Bool) : Prop where
  ex : ∃ rows : List Value, rows.length = m ∧ W.ownsRow base 95 1 v m rows ∧ ∀ i, i < m → ∃ x, rows[i]? = some x ∧ W.ownsRow base 4 1 x n (bitR n (r i))
theorem TbG.nil (W : World) (base n : Nat) (r : Nat → Nat → Bool) : TbG W base (.slice none 0 0) 0 n r := ⟨[], rfl, World.ownsRow_nil _ _ _ _, fun i hi => absurd hi (by omega)⟩
theorem TbG.slice {W : World} {base : Nat} {v : Value} {m n : Nat} {r : Nat → Nat → Bool} (h : TbG W base v m n r) : ∃ a c, v = .slice a m c := by
  obtain ⟨rows, _, h, _⟩ := h.ex
  exact ownsRow_slice h
theorem TbG.below {W W' : World} {base : Nat} {v : Value} {m n : Nat} {r : Nat → Nat → Bool} (h : TbG W base v m n r) (hb : Below W.heap.size W W') : TbG W' base v m n r := by
  obtain ⟨rows, h0, h1, h2⟩ := h.ex
  refine ⟨rows, h0, ownsRow_same h1 fun b hb' => hb.block b (ownsRow_block h1 b hb').2.1, fun i hi => ?_⟩
  obtain ⟨x, hx, ho⟩ := h2 i hi
  exact ⟨x, hx, ownsRow_same ho fun b hb' => hb.block b (ownsRow_block ho b hb').2.1⟩
/-- A block that is neither a table's nor a row's is turned. -/
theorem TbG.set {W : World} {base : Nat} {v : Value} {m n : Nat} {r : Nat → Nat → Bool} (h : TbG W base v m n r) {p : Addr} (hp : p.block < base) (u : Value) : TbG (W.setCell p u) base v m n r := by
  obtain ⟨rows, h0, h1, h2⟩ := h.ex
  refine ⟨rows, h0, ownsRow_same h1 fun b hb' => Below.heap_setCell W p u b (by have := (ownsRow_block h1 b hb').1; omega), fun i hi => ?_⟩
  obtain ⟨x, hx, ho⟩ := h2 i hi
  exact ⟨x, hx, ownsRow_same ho fun b hb' => Below.heap_setCell W p u b (by have := (ownsRow_block ho b hb').1; omega)⟩
/-- One row more. -/
theorem TbG.rows {W : World} {base : Nat} {v : Value} {m n : Nat} {r : Nat → Nat → Bool} (h : TbG W base v m n r) {x : Value} (hx : W.ownsRow base 4 1 x n (bitR n (r m))) : ∃ rows : List Value, rows.length = m ∧ W.ownsRow base 95 1 v m rows ∧ ∀ (W' : World) (v' : Value), W'.ownsRow base 95 1 v' (m + 1) (rows ++ [x]) → W.grownBy W' v.ownBlock → TbG W' base v' (m + 1) n r := by
  obtain ⟨rows, h0, h1, h2⟩ := h.ex
  refine ⟨rows, h0, h1, fun W' v' ho hg => ⟨rows ++ [x], by simp [h0], ho, fun i hi => ?_⟩⟩
  have key : ∀ {y : Value} {l : List Value}, W.ownsRow base 4 1 y n l → W'.ownsRow base 4 1 y n l := fun hy => ownsRow_same hy fun b hb => hg.block b (ownsRow_block hy b hb).2.1 fun e => by
    have t1 := own_tagD hy hb
    have t2 := own_tagD h1 e.symm
    rw [t1] at t2
    cases t2
  by_cases e : i < m
  · obtain ⟨y, hy, ho'⟩ := h2 i e
    exact ⟨y, by rw [List.getElem?_append_left (by omega)]; exact hy, key ho'⟩
  · obtain rfl : i = m := by omega
    exact ⟨x, by rw [List.getElem?_append_right (by omega), h0, Nat.sub_self]; rfl, key hx⟩
theorem TbG.links {W : World} {base : Nat} {v : Value} {m n : Nat} {r : Nat → Nat → Bool} (h : TbG W base v m n r) : LnkT W v (tabM m n r) := by
  obtain ⟨rows, h0, h1, h2⟩ := h.ex
  have hlen : (tabM m n r).length = m := by simp [tabM]
  rcases own_cells h1 with ⟨e, e0⟩ | ⟨g, cap, e, _, hg, hc⟩
  · subst e0
    exact ⟨none, 0, by rw [e, hlen], .inl rfl⟩
  · refine ⟨some ⟨g, 0, none⟩, cap, by rw [e, hlen], .inr ⟨g, 0, rfl, .inl (own_tagD h1 (by rw [e]; rfl)), fun i hi => ?_⟩⟩
    rw [hlen] at hi
    have hrow : (tabM m n r)[i]'(by rw [hlen]; exact hi) = (List.range n).map (r i) := by simp [tabM]
    have hcell := hc i (by omega)
    obtain ⟨x, hx, ho⟩ := h2 i hi
    rw [hx] at hcell
    rw [Nat.zero_add]
    rcases own_cells ho with ⟨e1, e2⟩ | ⟨rg, rc, e1, _, hrg, hrc⟩
    · subst e2
      exact ⟨none, 0, by rw [hcell, e1]; simp [tabM], .inl (by rw [hrow]; rfl)⟩
    · refine ⟨some ⟨rg, 0, none⟩, rc, by rw [hcell, e1]; simp [tabM], .inr ⟨rg, 0, rfl, .inr (own_tagD ho (by rw [e1]; rfl)), fun j hj => ?_⟩⟩
      have hj' : j < n := by simpa [tabM] using hj
      rw [Nat.zero_add, hrc j (by omega), bitR_at hj']
      simp [tabM]
section
variable {w0 W W' : World} {K : DoK} {S : Sto}
/-- Links laid anew: only the store's own block is turned, and new ones are made. -/
theorem DoR.relink (h : DoR w0 W K S) {cut : Bool} {lv : Value} {LM : List (List Bool)} (hb : Below w0.heap.size w0 W') (hs : W.heap.size ≤ W'.heap.size) (hr : ∀ b, b < W.heap.size → b ≠ K.B → W'.heap[b]? = W.heap[b]?) (hB : W'.heap[K.B]? = some (doO { K with cut := cut, lv := lv } S)) (hl : cut = true → LnkT W' lv LM) :
    DoR w0 W' { K with cut := cut, lv := lv, LM := LM } S ∧ DFr K S.k W W' { K with cut := cut, lv := lv, LM := LM } := by
  have key : ∀ (p : Pc) (b : Nat), p ≠ .B → p.ok S.k → K.at p = some b → W'.heap[b]? = W.heap[b]? := fun p b hp hk hb => hr b ((h.facts p hk).blk hb).2.1 fun e => h.apart hk (q := .B) trivial hp hb (by rw [e]; rfl)
  refine ⟨⟨hb, fun p hp => ?_, hl, h.dc⟩, ⟨rfl, rfl, rfl⟩, hs, fun b hb hn => hr b hb fun e => hn (h.at_own (p := .B) trivial (by rw [e]; rfl)), fun i b hi he => .inl ⟨i, hi, he⟩⟩
  have hf := h.facts p hp
  cases p with
  | B => exact ⟨hB, hf.2⟩
  | C => exact hf.same fun b hb => key .C b (fun e => by cases e) hp hb
  | M => exact hf.same fun b hb => key .M b (fun e => by cases e) hp hb
  | vm => exact hf.same fun b hb => key .vm b (fun e => by cases e) hp hb
  | vl => exact hf.same fun b hb => key .vl b (fun e => by cases e) hp hb
  | ve => exact hf.same fun b hb => key .ve b (fun e => by cases e) hp hb
  | vs => exact hf.same fun b hb => key .vs b (fun e => by cases e) hp hb
  | cv i => exact hf.same fun b hb => key (.cv i) b (fun e => by cases e) hp hb
end
end Go.Proofs.YtncnojgemmcplaaGreatDoor.St.Dc
