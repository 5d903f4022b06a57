/-
  Package local's Split, walked: of each key its ops and their numbers.
-/
import Derived.Test.YtbkeelnflpfdiaaRefW
import Derived.Deep.RegionHeld3
import Derived.Deep.RegionLaw
import Derived.Deep.DeepCutAuto
namespace Go.Proofs.Ytbkeelnflpfdiaa
open Go.RowKit

def row8 (vs : Nat → Value) : Array Value := #[vs 0, vs 1, vs 2, vs 3, vs 4, vs 5, vs 6, vs 7]
def setV (vs : Nat → Value) (q : Nat) (x : Value) : Nat → Value := fun r => if r = q then x else vs r
theorem row8_set (vs : Nat → Value) (q : Nat) (hq : q < 8) (x : Value) : (row8 vs).setIfInBounds q x = row8 (setV vs q x) := by
  match q, hq with
  | 0, _ | 1, _ | 2, _ | 3, _ | 4, _ | 5, _ | 6, _ | 7, _ => rfl
theorem row8_at (vs : Nat → Value) (q : Nat) (hq : q < 8) : (row8 vs)[q]? = some (vs q) := by
  match q, hq with
  | 0, _ | 1, _ | 2, _ | 3, _ | 4, _ | 5, _ | 6, _ | 7, _ => rfl

/-- Eight rows of one's own, each in a block of its own, and the table of them. -/
structure TabAt (w : World) (base T : Nat) (ty e : TypeId) (size : Nat) (vs : Nat → Value) (ls : Nat → List Value) (ns : Nat → Nat) : Prop where
  tab : w.heap[T]? = some (.cells (row8 vs) ty (0, 0))
  lo : base ≤ T
  rows : ∀ q, q < 8 → w.ownsRow base e size (vs q) (ns q) (ls q)
  sep : ∀ q r, q < 8 → r < 8 → q ≠ r → ∀ b, (vs q).ownBlock = some b → (vs r).ownBlock ≠ some b

theorem TabAt.same {w w' : World} {base T : Nat} {ty e : TypeId} {size : Nat} {vs : Nat → Value} {ls : Nat → List Value} {ns : Nat → Nat} (h : TabAt w base T ty e size vs ls ns) (hs : ∀ (b : Nat) (c : Array Value) (t : TypeId), w.heap[b]? = some (Obj.cells c t (0, 0)) → t = ty ∨ t = e → w'.heap[b]? = w.heap[b]?) : TabAt w' base T ty e size vs ls ns :=
  ⟨(hs T _ _ h.tab (.inl rfl)).trans h.tab, h.lo, fun q hq => ownsRow_same (h.rows q hq) (fun b hb => by
    obtain ⟨_, _, c, e⟩ := ownsRow_block (h.rows q hq) b hb
    exact hs b c _ e (.inr rfl)), h.sep⟩
theorem TabAt.alloc {w : World} {base T : Nat} {ty e : TypeId} {size : Nat} {vs : Nat → Value} {ls : Nat → List Value} {ns : Nat → Nat} (h : TabAt w base T ty e size vs ls ns) (o : Obj) : TabAt (w.alloc o) base T ty e size vs ls ns :=
  h.same (fun b _ _ e _ => Below.heap_alloc w o b (lt_of_heap e))

/-- One row grown, the table's cell not written yet. -/
structure TabMid (w : World) (base T : Nat) (ty e : TypeId) (size : Nat) (vs : Nat → Value) (q : Nat) (x : Value) (n : Nat) (l : List Value) (ls : Nat → List Value) (ns : Nat → Nat) : Prop where
  tab : w.heap[T]? = some (.cells (row8 vs) ty (0, 0))
  lo : base ≤ T
  row : w.ownsRow base e size x n l
  rows : ∀ r, r < 8 → r ≠ q → w.ownsRow base e size (vs r) (ns r) (ls r)
  sep : ∀ q r, q < 8 → r < 8 → q ≠ r → ∀ b, (vs q).ownBlock = some b → (vs r).ownBlock ≠ some b
  own : ∀ r, r < 8 → r ≠ q → ∀ b, (vs r).ownBlock = some b → x.ownBlock ≠ some b

theorem TabAt.grow {w w' : World} {base T : Nat} {ty e : TypeId} {size : Nat} {vs : Nat → Value} {ls : Nat → List Value} {ns : Nat → Nat} (h : TabAt w base T ty e size vs ls ns) (hne : ty ≠ e) {q : Nat} (hq : q < 8) {x : Value} {n : Nat} {l : List Value}
    (ho : w'.ownsRow base e size x n l) (hg : w.grownBy w' (vs q).ownBlock) (hob : x.ownBlock = (vs q).ownBlock ∨ x.ownBlock = some w.heap.size) : TabMid w' base T ty e size vs q x n l ls ns := by
  refine ⟨(hg.block T (lt_of_heap h.tab) (fun e => ?_)).trans h.tab, h.lo, ho, fun r hr hrq => ?_, h.sep, fun r hr hrq b hb he => ?_⟩
  · obtain ⟨_, _, c, e2⟩ := ownsRow_block (h.rows q hq) T e.symm
    rw [h.tab] at e2
    simp at e2
    exact hne e2.2
  · refine (h.rows r hr).kept hg ?_
    rcases Classical.em ((vs r).ownBlock = none) with h0 | h0
    · exact .inl h0
    · obtain ⟨b, hb⟩ := Option.ne_none_iff_exists'.1 h0
      exact .inr (fun e => h.sep r q hr hq hrq b hb (by rw [← e]; exact hb))
  · rcases hob with e | e
    · rw [e] at he
      exact h.sep r q hr hq hrq b hb he
    · rw [e] at he
      have := (ownsRow_block (h.rows r hr) b hb).2.1
      have := Option.some.inj he
      omega
theorem TabMid.put {w : World} {base T : Nat} {ty e : TypeId} {size : Nat} {vs : Nat → Value} {q : Nat} {x : Value} {n : Nat} {l : List Value} {ls : Nat → List Value} {ns : Nat → Nat} (h : TabMid w base T ty e size vs q x n l ls ns) (hne : ty ≠ e) (hq : q < 8) :
    TabAt (w.setCell ⟨T, q, none⟩ x) base T ty e size (setV vs q x) (fun r => if r = q then l else ls r) (fun r => if r = q then n else ns r) := by
  have hblk : ∀ (v : Value) (m : Nat) (xs : List Value), w.ownsRow base e size v m xs → (w.setCell ⟨T, q, none⟩ x).ownsRow base e size v m xs := fun v m xs hr => ownsRow_same hr (fun b hb => by
    obtain ⟨_, _, c, e2⟩ := ownsRow_block hr b hb
    have hTb : T ≠ b := fun k => by
      subst k
      rw [h.tab] at e2
      simp at e2
      exact hne e2.2
    simp [World.setCell, Array.getElem?_modify, hTb])
  refine ⟨?_, h.lo, fun r hr => ?_, fun a r ha hr har b hb he => ?_⟩
  · rw [← row8_set vs q hq]
    simp [World.setCell, Array.getElem?_modify, h.tab]
  · by_cases hrq : r = q
    · subst hrq
      simp only [setV, if_true]
      exact hblk _ _ _ h.row
    · simp only [setV, if_neg hrq]
      exact hblk _ _ _ (h.rows r hr hrq)
  · by_cases h1 : a = q
    · subst h1
      have h2 : r ≠ a := fun k => har k.symm
      simp only [setV, if_true, if_neg h2] at hb he
      exact h.own r hr h2 b he hb
    · by_cases h2 : r = q
      · subst h2
        simp only [setV, if_true, if_neg h1] at hb he
        exact h.own a ha h1 b hb he
      · simp only [setV, if_neg h1, if_neg h2] at hb he
        exact h.sep a r ha hr har b hb he


def nil8 : Nat → Value := fun _ => .slice none 0 0
theorem info22 : (Try.prog.info? 22).map (fun i => (i.zero, i.size, i.bytes)) = some (some (.slice none 0 0), 1, 24) := by kernel_rfl
theorem info27 : (Try.prog.info? 27).map (fun i => (i.zero, i.size, i.bytes)) = some (some (.slice none 0 0), 1, 24) := by kernel_rfl
theorem made8 : madeCells #[.slice none 0 0] 8 = row8 nil8 := by
  refine Array.ext (by simp [row8, madeCells]) (fun i h1 h2 => ?_)
  have h8 : i < 8 := by simpa [row8] using h2
  have e : (madeCells #[.slice none 0 0] 8)[i] = .slice none 0 0 := by simp [madeCells, Nat.mod_one]
  rw [e]
  match i, h8 with
  | 0, _ | 1, _ | 2, _ | 3, _ | 4, _ | 5, _ | 6, _ | 7, _ => rfl
theorem made23 (w : World) : (Instr.makeSlice 23 (.int .i64 8) (.int .i64 8)).run Try.prog w = .ok (.slice (some ⟨w.heap.size, 0, none⟩) 8 8) (w.alloc (.cells (row8 nil8) 22)) := by
  obtain ⟨i, hi, hz, hs, hb⟩ := info_parts info22
  have := run_make (P := Try.prog) w 23 22 i (.slice none 0 0) Try.underlying23 hi hz .i64 .i64 8 8 (by omega) (Int.le_refl _) (by rw [hb]; omega) (by omega)
  have e : (Value.slice none 0 0).cells = #[.slice none 0 0] := rfl
  rw [e, hs, show (8 : Int).toNat * 1 = 8 from rfl, made8] at this
  exact this
theorem made24 (w : World) : (Instr.makeSlice 24 (.int .i64 8) (.int .i64 8)).run Try.prog w = .ok (.slice (some ⟨w.heap.size, 0, none⟩) 8 8) (w.alloc (.cells (row8 nil8) 27)) := by
  obtain ⟨i, hi, hz, hs, hb⟩ := info_parts info27
  have := run_make (P := Try.prog) w 24 27 i (.slice none 0 0) Try.underlying24 hi hz .i64 .i64 8 8 (by omega) (Int.le_refl _) (by rw [hb]; omega) (by omega)
  have e : (Value.slice none 0 0).cells = #[.slice none 0 0] := rfl
  rw [e, hs, show (8 : Int).toNat * 1 = 8 from rfl, made8] at this
  exact this

/-- What Split has made of the first k ops. -/
structure SpAt (w : World) (base P N : Nat) (ops : List Opn) (k : Nat) (vs ns : Nat → Value) : Prop where
  parts : TabAt w base P 22 34 8 vs (fun q => opCells (partL ops q k)) (fun q => (nums ops q k).length)
  numbs : TabAt w base N 27 3 1 ns (fun q => ordV (nums ops q k)) (fun q => (nums ops q k).length)
theorem tab_made {w : World} {base T : Nat} {ty e : TypeId} {size : Nat} (h : w.heap[T]? = some (.cells (row8 nil8) ty (0, 0))) (hb : base ≤ T) : TabAt w base T ty e size nil8 (fun _ => []) (fun _ => 0) :=
  ⟨h, hb, fun q _ => World.ownsRow_nil _ _ _ _, fun q r _ _ _ b hb => by cases hb⟩
theorem sp_made {w : World} {base P N : Nat} {ops : List Opn} (h1 : w.heap[P]? = some (.cells (row8 nil8) 22 (0, 0))) (h2 : w.heap[N]? = some (.cells (row8 nil8) 27 (0, 0))) (hb : base ≤ P) (hb2 : base ≤ N) : SpAt w base P N ops 0 nil8 nil8 := ⟨tab_made h1 hb, tab_made h2 hb2⟩
theorem SpAt.alloc {w : World} {base P N : Nat} {ops : List Opn} {k : Nat} {vs ns : Nat → Value} (h : SpAt w base P N ops k vs ns) (o : Obj) : SpAt (w.alloc o) base P N ops k vs ns := ⟨h.parts.alloc o, h.numbs.alloc o⟩
theorem SpAt.miss {w : World} {base P N : Nat} {ops : List Opn} {k : Nat} {vs ns : Nat → Value} (h : SpAt w base P N ops k vs ns) (hm : ∀ q : Nat, q < 8 → (opN ops k).k ≠ q) : SpAt w base P N ops (k + 1) vs ns :=
  ⟨⟨h.parts.tab, h.parts.lo, fun q hq => by have := h.parts.rows q hq; simp only [part_miss (hm q hq), nums_miss (hm q hq)]; exact this, h.parts.sep⟩,
   ⟨h.numbs.tab, h.numbs.lo, fun q hq => by have := h.numbs.rows q hq; simp only [nums_miss (hm q hq)]; exact this, h.numbs.sep⟩⟩

theorem tab_cell {w : World} {base T : Nat} {ty e : TypeId} {size : Nat} {vs : Nat → Value} {ls : Nat → List Value} {ns : Nat → Nat} (h : TabAt w base T ty e size vs ls ns) {q : Nat} (hq : q < 8) : w.cell? ⟨T, q, none⟩ = some (vs q) := by
  rw [cell_of_row w _ _ _ ty (0, 0) h.tab, row8_at vs q hq]
theorem mid_cell {w : World} {base T : Nat} {ty e : TypeId} {size : Nat} {vs : Nat → Value} {q : Nat} {x : Value} {n : Nat} {l : List Value} {ls : Nat → List Value} {ns : Nat → Nat} (h : TabMid w base T ty e size vs q x n l ls ns) {r : Nat} (hr : r < 8) : w.cell? ⟨T, r, none⟩ = some (vs r) ∧ w.frozen? ⟨T, r, none⟩ = false :=
  ⟨by rw [cell_of_row w _ _ _ ty (0, 0) h.tab, row8_at vs r hr], frozen_of_row w _ _ _ ty h.tab⟩

/-- append in a region that draws, out of the equation of its run. -/
theorem step_append_run {P : Program} {ops : Array Oper} {o : Oper} {a : Act} {w : World} {K : Act → World → Prop} {Q : Exit → Act → World → Prop} {E : Prop} (hgd : o.guard = none) (s x : Operand) (t : TypeId)
    (ho : o.op = .call { callee := .builtin .append, args := #[s, x], argTypes := #[t, t] }) (v xv v' : Value) (w' : World) (hs : a.eval s = v) (hx : a.eval x = xv) (hr : (Builtin.append_ #[t, t] o.type #[v, xv]).run P w = .ok v' w')
    (hK : K (a.put o.dst v') w') : if Region.wanted o (yielded ops a.tmps) = true then Oper.wp P o a w K Q else E := by
  have hw : Region.wanted o (yielded ops a.tmps) = true := by simp [Region.wanted, hgd]
  rw [if_pos hw]
  unfold Oper.wp execOp
  simp only [ho, resolve, invoke, builtin, Sem.run_bind, Sem.run_pure, Result.andThen_ok, List.map_toArray, List.map_cons, List.map_nil, hs, hx, hr]
  exact hK

set_option maxRecDepth 100000 in
set_option maxHeartbeats 1000000 in
theorem split_any (ops : List Opn) (u : Value) (w : World) (hlen : ops.length ≤ 60) (hl : OpsIn w u ops) :
    Calls Try.prog 4 #[u] w fun e w' => ∃ P N vs ns, e = .returned (.tuple #[.slice (some ⟨P, 0, none⟩) 8 8, .slice (some ⟨N, 0, none⟩) 8 8]) ∧ SpAt w' w.heap.size P N ops ops.length vs ns ∧ Below w.heap.size w w' := by
  obtain ⟨a, cap, rfl, hc, hm, hl⟩ := hl
  have HC : Hid (∀ k, (hk : k < ops.length) → ∃ b off, a = some ⟨b, off, none⟩ ∧ ∀ wr, Below w.heap.size w wr → OpAt wr b (off + k * 8) (opN ops k)) := fun k hk => by
    rcases hl with rfl | ⟨b, off, rfl, hb, ho⟩
    · simp at hk
    · exact ⟨b, off, rfl, fun wr hW => by rw [opN_at hk]; exact (ho k hk).below hb hW⟩
  have hm23 := made23
  have hm24 := made24
  clear hl
  go_enter Try.func4, Try.ntmps4
  go_upto_region 1 with fail
  go_cut [2, 3] (fun x y wx => ∃ P N, x = .slice (some ⟨P, 0, none⟩) 8 8 ∧ y = .slice (some ⟨N, 0, none⟩) 8 8 ∧ SpAt wx w.heap.size P N ops 0 nil8 nil8 ∧ Below w.heap.size w wx)
  case first =>
    go_region
    all_goals
      go_wp2_with fail
      go_meet
    · refine ⟨_, _, rfl, rfl, sp_made ?_ ?_ (Nat.le_refl _) (Nat.le_succ _), Below.drew (belA (belA (Below.refl _ _) _) _)⟩
      · exact (Below.heap_alloc _ _ _ (by simp)).trans (heap_alloc_new w _)
      · have := heap_alloc_new (w.alloc (.cells (row8 nil8) 22)) (.cells (row8 nil8) 27)
        rw [show (w.alloc (.cells (row8 nil8) 22)).heap.size = w.heap.size + 1 by simp] at this
        exact this
    · refine ⟨_, _, rfl, rfl, sp_made ?_ ?_ (Nat.le_succ _) (Nat.le_refl _), Below.drew (belA (belA (Below.refl _ _) _) _)⟩
      · have := heap_alloc_new (w.alloc (.cells (row8 nil8) 27)) (.cells (row8 nil8) 22)
        rw [show (w.alloc (.cells (row8 nil8) 27)).heap.size = w.heap.size + 1 by simp] at this
        exact this
      · exact (Below.heap_alloc _ _ _ (by simp)).trans (heap_alloc_new w _)
  case rest =>
    obtain ⟨P, N, rfl, rfl, hsp, hb0⟩ := hcut
    have HSP := hideIt hsp
    have HB0 := hideIt hb0
    clear hsp hb0 hm23 hm24
    go_wp2_with fail
    go_loopw [10] (fun i wr => ∃ (k : Nat) (vs ns : Nat → Value), k ≤ ops.length ∧ i = .int .i64 k ∧ SpAt wr w.heap.size P N ops k vs ns ∧ Below w.heap.size w wr) (fun i _ => ops.length - (intOf i).toNat)
    case atStart => exact ⟨0, nil8, nil8, by omega, rfl, HSP.out, HB0.out⟩
    case round =>
      obtain ⟨k, vs, ns, hk, rfl, hp, hb⟩ := hrel
      have HB := hideIt hb
      have HP := hideIt hp
      have hsz := hb.size
      clear hb hp
      by_cases hkl : k < ops.length
      · obtain ⟨b, off, rfl, hc⟩ := HC.out k hkl
        obtain ⟨c0, c1, c2, c3, c4, c5, c6, c7⟩ := hc _ HB.out
        have hbl : b < wr.heap.size := World.block_lt_of_cell? wr _ c0
        obtain ⟨x, hx⟩ : ∃ x, opN ops k = x := ⟨_, rfl⟩
        rw [hx] at c0 c1 c2 c3 c4 c5 c6 c7
        have HX := hideIt hx
        clear hx hc
        have k1 : (0 : Int) ≤ (k : Int) := by omega
        have k2 : (k : Int) < (ops.length : Int) := by omega
        have hwr : IntKind.i64.wrap ((k : Int) + 1) = (k : Int) + 1 := by rw [IntKind.wrap_i64]; omega
        by_cases hq : 0 ≤ x.k ∧ x.k < 8
        · obtain ⟨q, hxq⟩ : ∃ q : Nat, x.k = (q : Int) := ⟨x.k.toNat, by omega⟩
          have hq8 : q < 8 := by omega
          obtain ⟨xp, xk, xd, xa, xb, xr, xc, xe⟩ := x
          simp only at hxq hq c0 c1 c2 c3 c4 c5 c6 c7
          subst hxq
          clear hq
          have g1 : decide ((0 : Int) ≤ (q : Int)) = true := by simp
          have g2 : decide ((q : Int) < 8) = true := by simp; omega
          have g3 : (q : Int) < 8 := by omega
          obtain ⟨i34, hi, hz, hsz34, hby⟩ := info_parts info34
          obtain ⟨i3, hi3, hz3, hsz3, hby3⟩ := info_parts info3
          have hle := nums_le ops q k
          have p1 : wr.cell? ⟨P, q, none⟩ = some (vs q) := tab_cell HP.out.parts hq8
          have hPl : P < wr.heap.size := World.block_lt_of_cell? wr _ p1
          have HP1 : Hid (SpAt ((wr.alloc (.cells #[.int .i64 xp, .int .i64 (q : Int), .int .i64 xd, .int .i64 xa, .int .i64 xb, .int .i64 xr, .int .i64 xc, .int .i64 xe] 34)).alloc (.cells #[.int .i64 xp, .int .i64 (q : Int), .int .i64 xd, .int .i64 xa, .int .i64 xb, .int .i64 xr, .int .i64 xc, .int .i64 xe] 34)).drew w.heap.size P N ops k vs ns) := hideIt ⟨((HP.out.parts.alloc _).alloc _).same (fun _ _ _ _ _ => rfl), ((HP.out.numbs.alloc _).alloc _).same (fun _ _ _ _ _ => rfl)⟩
          have HB1 : Hid (Below w.heap.size w ((wr.alloc (.cells #[.int .i64 xp, .int .i64 (q : Int), .int .i64 xd, .int .i64 xa, .int .i64 xb, .int .i64 xr, .int .i64 xc, .int .i64 xe] 34)).alloc (.cells #[.int .i64 xp, .int .i64 (q : Int), .int .i64 xd, .int .i64 xa, .int .i64 xb, .int .i64 xr, .int .i64 xc, .int .i64 xe] 34)).drew) := hideIt (Below.drew (belA (belA HB.out _) _))
          have hs1 : ((wr.alloc (.cells #[.int .i64 xp, .int .i64 (q : Int), .int .i64 xd, .int .i64 xa, .int .i64 xb, .int .i64 xr, .int .i64 xc, .int .i64 xe] 34)).alloc (.cells #[.int .i64 xp, .int .i64 (q : Int), .int .i64 xd, .int .i64 xa, .int .i64 xb, .int .i64 xr, .int .i64 xc, .int .i64 xe] 34)).drew.heap.size = wr.heap.size + 2 := by
            show ((wr.alloc (.cells #[.int .i64 xp, .int .i64 (q : Int), .int .i64 xd, .int .i64 xa, .int .i64 xb, .int .i64 xr, .int .i64 xc, .int .i64 xe] 34)).alloc (.cells #[.int .i64 xp, .int .i64 (q : Int), .int .i64 xd, .int .i64 xa, .int .i64 xb, .int .i64 xr, .int .i64 xc, .int .i64 xe] 34)).heap.size = _
            simp
          obtain ⟨v1, w1, hr1, ho1, hg1, hob1⟩ := run_appO (w := ((wr.alloc (.cells #[.int .i64 xp, .int .i64 (q : Int), .int .i64 xd, .int .i64 xa, .int .i64 xb, .int .i64 xr, .int .i64 xc, .int .i64 xe] 34)).alloc (.cells #[.int .i64 xp, .int .i64 (q : Int), .int .i64 xd, .int .i64 xa, .int .i64 xb, .int .i64 xr, .int .i64 xc, .int .i64 xe] 34)).drew) (B := wr.heap.size + 1) (op := ⟨xp, (q : Int), xd, xa, xb, xr, xc, xe⟩) (HP1.out.parts.rows q hq8) (by
            have e : ((wr.alloc (.cells #[.int .i64 xp, .int .i64 (q : Int), .int .i64 xd, .int .i64 xa, .int .i64 xb, .int .i64 xr, .int .i64 xc, .int .i64 xe] 34)).alloc (.cells #[.int .i64 xp, .int .i64 (q : Int), .int .i64 xd, .int .i64 xa, .int .i64 xb, .int .i64 xr, .int .i64 xc, .int .i64 xe] 34)).heap[wr.heap.size + 1]? = some (.cells #[.int .i64 xp, .int .i64 (q : Int), .int .i64 xd, .int .i64 xa, .int .i64 xb, .int .i64 xr, .int .i64 xc, .int .i64 xe] 34 (0, 0)) := by
              have := heap_alloc_new (wr.alloc (.cells #[.int .i64 xp, .int .i64 (q : Int), .int .i64 xd, .int .i64 xa, .int .i64 xb, .int .i64 xr, .int .i64 xc, .int .i64 xe] 34)) (.cells #[.int .i64 xp, .int .i64 (q : Int), .int .i64 xd, .int .i64 xa, .int .i64 xb, .int .i64 xr, .int .i64 xc, .int .i64 xe] 34)
              rw [show (wr.alloc (.cells #[.int .i64 xp, .int .i64 (q : Int), .int .i64 xd, .int .i64 xa, .int .i64 xb, .int .i64 xr, .int .i64 xc, .int .i64 xe] 34)).heap.size = wr.heap.size + 1 by simp] at this
              exact this
            have c : ∀ i, ((wr.alloc (.cells #[.int .i64 xp, .int .i64 (q : Int), .int .i64 xd, .int .i64 xa, .int .i64 xb, .int .i64 xr, .int .i64 xc, .int .i64 xe] 34)).alloc (.cells #[.int .i64 xp, .int .i64 (q : Int), .int .i64 xd, .int .i64 xa, .int .i64 xb, .int .i64 xr, .int .i64 xc, .int .i64 xe] 34)).drew.cell? ⟨wr.heap.size + 1, i, none⟩ = #[.int .i64 xp, .int .i64 (q : Int), .int .i64 xd, .int .i64 xa, .int .i64 xb, .int .i64 xr, .int .i64 xc, .int .i64 xe][i]? := fun i => cell_of_row _ _ _ _ 34 (0, 0) e
            exact ⟨c 0, c 1, c 2, c 3, c 4, c 5, c 6, c 7⟩) (by rw [hs1]; omega) (by omega) 22
          have hmid := HP1.out.parts.grow (by decide) hq8 ho1 hg1 hob1
          have hN1 : TabAt w1 w.heap.size N 27 3 1 ns (fun q => ordV (nums ops q k)) (fun q => (nums ops q k).length) := HP1.out.numbs.same (fun b c t e ht => hg1.block b (lt_of_heap e) (fun k => by
            obtain ⟨_, _, c', e'⟩ := ownsRow_block (HP1.out.parts.rows q hq8) b k.symm
            rw [e] at e'
            simp at e'
            rcases ht with rfl | rfl <;> simp at e'))
          have HE1 : Hid (w1.heap[wr.heap.size]? = some (.cells #[.int .i64 xp, .int .i64 (q : Int), .int .i64 xd, .int .i64 xa, .int .i64 xb, .int .i64 xr, .int .i64 xc, .int .i64 xe] 34 (0, 0))) := hideIt ((hg1.block wr.heap.size (by rw [hs1]; omega) (fun k => by
              have := (ownsRow_block (HP.out.parts.rows q hq8) _ k.symm).2.1
              omega)).trans ((Below.heap_alloc _ _ _ (by simp)).trans (heap_alloc_new wr _)))
          have hop1 : w1.cell? ⟨wr.heap.size, 0, none⟩ = some (.int .i64 xp) ∧ w1.cell? ⟨wr.heap.size, 1, none⟩ = some (.int .i64 (q : Int)) ∧ w1.cell? ⟨wr.heap.size, 2, none⟩ = some (.int .i64 xd) ∧ w1.cell? ⟨wr.heap.size, 3, none⟩ = some (.int .i64 xa) ∧ w1.cell? ⟨wr.heap.size, 4, none⟩ = some (.int .i64 xb) ∧ w1.cell? ⟨wr.heap.size, 5, none⟩ = some (.int .i64 xr) ∧ w1.cell? ⟨wr.heap.size, 6, none⟩ = some (.int .i64 xc) ∧ w1.cell? ⟨wr.heap.size, 7, none⟩ = some (.int .i64 xe) := by
            have e : ((wr.alloc (.cells #[.int .i64 xp, .int .i64 (q : Int), .int .i64 xd, .int .i64 xa, .int .i64 xb, .int .i64 xr, .int .i64 xc, .int .i64 xe] 34)).alloc (.cells #[.int .i64 xp, .int .i64 (q : Int), .int .i64 xd, .int .i64 xa, .int .i64 xb, .int .i64 xr, .int .i64 xc, .int .i64 xe] 34)).drew.heap[wr.heap.size]? = some (.cells #[.int .i64 xp, .int .i64 (q : Int), .int .i64 xd, .int .i64 xa, .int .i64 xb, .int .i64 xr, .int .i64 xc, .int .i64 xe] 34 (0, 0)) := (Below.heap_alloc _ _ _ (by simp)).trans (heap_alloc_new wr _)
            have e1 : w1.heap[wr.heap.size]? = some (.cells #[.int .i64 xp, .int .i64 (q : Int), .int .i64 xd, .int .i64 xa, .int .i64 xb, .int .i64 xr, .int .i64 xc, .int .i64 xe] 34 (0, 0)) := (hg1.block wr.heap.size (by rw [hs1]; omega) (fun k => by
              have := (ownsRow_block (HP.out.parts.rows q hq8) _ k.symm).2.1
              omega)).trans e
            have c : ∀ i, w1.cell? ⟨wr.heap.size, i, none⟩ = #[.int .i64 xp, .int .i64 (q : Int), .int .i64 xd, .int .i64 xa, .int .i64 xb, .int .i64 xr, .int .i64 xc, .int .i64 xe][i]? := fun i => cell_of_row _ _ _ _ 34 (0, 0) e1
            exact ⟨c 0, c 1, c 2, c 3, c 4, c 5, c 6, c 7⟩
          obtain ⟨y0, y1, y2, y3, y4, y5, y6, y7⟩ := hop1
          obtain ⟨z0, z1⟩ := mid_cell hmid hq8
          obtain ⟨va, vc, hv1, _⟩ := ownsRow_slice ho1
          have hb1 : Below w.heap.size w w1 := HB1.out.grown hg1 (by rw [hs1]; omega) (fun b hb => ((HP1.out.parts.rows q hq8).lt b hb).1)
          have HR1 := hideIt hr1
          have HMID := hideIt hmid
          have HN1 := hideIt hN1
          have HBB := hideIt hb1
          have HG1 := hideIt hg1
          have hss := hg1.size
          rw [hs1] at hss
          have hwl1 : wr.heap.size < w1.heap.size := by omega
          have hPl1 : P < w1.heap.size := World.block_lt_of_cell? w1 _ z0
          clear hr1 ho1 hg1 hob1 hmid hN1 hb1
          obtain ⟨vq, hvq⟩ : ∃ vq, vs q = vq := ⟨_, rfl⟩
          rw [hvq] at p1 z0 HR1
          subst hv1
          have HF : Hid (TabAt (w1.setCell ⟨P, q, none⟩ (.slice va ((nums ops (q : Int) k).length + 1) vc)) w.heap.size P 22 34 8 (setV vs q (.slice va ((nums ops (q : Int) k).length + 1) vc)) (fun r => opCells (partL ops r (k + 1))) (fun r => (nums ops r (k + 1)).length)) := hideIt (by
            have h := HMID.out.put (by decide) hq8
            have hkk : (opN ops k).k = (q : Int) := by rw [HX.out]
            refine ⟨h.tab, h.lo, fun r hr => ?_, h.sep⟩
            have := h.rows r hr
            by_cases e : r = q
            · subst e
              simp only [if_true] at this
              rw [nums_hit hkk, part_hit hkk, HX.out, List.length_append]
              exact this
            · simp only [if_neg e] at this
              have hne : (opN ops k).k ≠ (r : Int) := by rw [hkk]; omega
              rw [nums_miss hne, part_miss hne]
              exact this)
          have HNN : Hid (TabAt (w1.setCell ⟨P, q, none⟩ (.slice va ((nums ops (q : Int) k).length + 1) vc)) w.heap.size N 27 3 1 ns (fun q => ordV (nums ops q k)) (fun q => (nums ops q k).length)) := hideIt (HN1.out.same (fun b c t e ht => Below.heap_setCell _ _ _ _ (fun k => by
            have e2 := HMID.out.tab
            rw [show b = P from k] at e
            rw [e] at e2
            simp at e2
            rcases ht with rfl | rfl <;> simp at e2)))
          have HBF : Hid (Below w.heap.size w (w1.setCell ⟨P, q, none⟩ (.slice va ((nums ops (q : Int) k).length + 1) vc))) := hideIt (HBB.out.setCell (p := ⟨P, q, none⟩) HMID.out.lo _)
          have HY : Hid ((w1.setCell ⟨P, q, none⟩ (.slice va ((nums ops (q : Int) k).length + 1) vc)).cell? ⟨wr.heap.size, 1, none⟩ = some (.int .i64 (q : Int))) := hideIt ((World.cell?_of_block (a := ⟨wr.heap.size, 1, none⟩) (Below.heap_setCell _ _ _ _ (show wr.heap.size ≠ P by omega))).trans y1)
          have HNE : Hid (¬ ∃ cur, (w1.setCell ⟨P, q, none⟩ (.slice va ((nums ops (q : Int) k).length + 1) vc)).heap[wr.heap.size]? = some (.cells cur 3 (0, 0))) := hideIt (fun ⟨cur, e⟩ => by
            rw [Below.heap_setCell _ _ _ _ (show wr.heap.size ≠ P by omega), HE1.out] at e
            simp at e)
          go_upto_region 6 with fail
          go_cut [33] (fun _ wx => wx = w1.setCell ⟨P, q, none⟩ (.slice va ((nums ops (q : Int) k).length + 1) vc))
          case first =>
            go_region_law (refine step_append_run (by rfl) _ _ 22 (by rfl) _ _ _ w1 (by rfl) (by rfl) HR1.out ?_)
            all_goals
              go_wp2_with fail
              go_meet
              rfl
          case rest =>
            clear p1 hPl y0 y1 y2 y3 y4 y5 y6 y7 z0 z1 HR1 HMID HN1 HBB HG1 hss hPl1 c0 c1 c2 c3 c4 c5 c6 c7
            have HWX := hideIt hcut
            clear hcut
            rw [← HWX.out] at HF HNN HBF HY HNE
            clear HWX hwl1
            have y1 := HY.out
            have hwl : wr.heap.size < wc.heap.size := World.block_lt_of_cell? _ _ y1
            have hsz2 := HBF.out.size
            have p2 : wc.cell? ⟨N, q, none⟩ = some (ns q) := tab_cell HNN.out hq8
            have hNl : N < wc.heap.size := World.block_lt_of_cell? wc _ p2
            have HT2 : Hid (TabAt (wc.alloc (.cells #[.int .i64 (k : Int)] 3)).drew w.heap.size N 27 3 1 ns (fun q => ordV (nums ops q k)) (fun q => (nums ops q k).length)) := hideIt ((HNN.out.alloc _).same (fun _ _ _ _ _ => rfl))
            have HF2 : Hid (TabAt (wc.alloc (.cells #[.int .i64 (k : Int)] 3)).drew w.heap.size P 22 34 8 (setV vs q (.slice va ((nums ops (q : Int) k).length + 1) vc)) (fun r => opCells (partL ops r (k + 1))) (fun r => (nums ops r (k + 1)).length)) := hideIt ((HF.out.alloc _).same (fun _ _ _ _ _ => rfl))
            have hs2 : (wc.alloc (.cells #[.int .i64 (k : Int)] 3)).drew.heap.size = wc.heap.size + 1 := by
              show (wc.alloc (.cells #[.int .i64 (k : Int)] 3)).heap.size = _
              simp
            obtain ⟨n1, w2, hr2, ho2, hg2, hob2⟩ := run_appN (w := (wc.alloc (.cells #[.int .i64 (k : Int)] 3)).drew) (B := wc.heap.size) (x := k) (HT2.out.rows q hq8) (by
              have e : (wc.alloc (.cells #[.int .i64 (k : Int)] 3)).drew.heap[wc.heap.size]? = some (.cells #[.int .i64 (k : Int)] 3 (0, 0)) := heap_alloc_new wc _
              exact cell_of_row _ _ _ _ 3 (0, 0) e) (by rw [hs2]; omega) (by omega) 27
            have hmid := HT2.out.grow (by decide) hq8 ho2 hg2 hob2
            have hP2 : TabAt w2 w.heap.size P 22 34 8 (setV vs q (.slice va ((nums ops (q : Int) k).length + 1) vc)) (fun r => opCells (partL ops r (k + 1))) (fun r => (nums ops r (k + 1)).length) := HF2.out.same (fun b c t e ht => hg2.block b (lt_of_heap e) (fun k => by
              obtain ⟨_, _, c', e'⟩ := ownsRow_block (HT2.out.rows q hq8) b k.symm
              rw [e] at e'
              simp at e'
              rcases ht with rfl | rfl <;> simp at e'))
            have hy2 : w2.cell? ⟨wr.heap.size, 1, none⟩ = some (.int .i64 (q : Int)) := by
              have e1 : w2.heap[wr.heap.size]? = (wc.alloc (.cells #[.int .i64 (k : Int)] 3)).drew.heap[wr.heap.size]? := hg2.block wr.heap.size (by rw [hs2]; omega) (fun k => HNE.out (ownsRow_block (HNN.out.rows q hq8) _ k.symm).2.2)
              exact ((World.cell?_of_block (a := ⟨wr.heap.size, 1, none⟩) e1).trans (World.cell?_alloc_lt wc _ ⟨wr.heap.size, 1, none⟩ hwl)).trans y1
            obtain ⟨z0, z1⟩ := mid_cell hmid hq8
            obtain ⟨na, nc, hn1, _⟩ := ownsRow_slice ho2
            have hb2 : Below w.heap.size w w2 := (Below.drew (belA HBF.out _)).grown hg2 (by rw [hs2]; omega) (fun b hb => ((HT2.out.rows q hq8).lt b hb).1)
            have HR2 := hideIt hr2
            have hss := hg2.size
            rw [hs2] at hss
            have hwl2 : wr.heap.size < w2.heap.size := by omega
            have hNl2 : N < w2.heap.size := World.block_lt_of_cell? w2 _ z0
            obtain ⟨nq, hnq⟩ : ∃ nq, ns q = nq := ⟨_, rfl⟩
            rw [hnq] at p2 z0 HR2
            subst hn1
            have HF : Hid (SpAt (w2.setCell ⟨N, q, none⟩ (.slice na ((nums ops (q : Int) k).length + 1) nc)) w.heap.size P N ops (k + 1) (setV vs q (.slice va ((nums ops (q : Int) k).length + 1) vc)) (setV ns q (.slice na ((nums ops (q : Int) k).length + 1) nc))) := hideIt (by
              refine ⟨hP2.same (fun b c t e ht => Below.heap_setCell _ _ _ _ (fun k => by
                have e2 := hmid.tab
                rw [show b = N from k] at e
                rw [e] at e2
                simp at e2
                rcases ht with rfl | rfl <;> simp at e2)), ?_⟩
              have h := hmid.put (by decide) hq8
              have hkk : (opN ops k).k = (q : Int) := by rw [HX.out]
              refine ⟨h.tab, h.lo, fun r hr => ?_, h.sep⟩
              have := h.rows r hr
              by_cases e : r = q
              · subst e
                simp only [if_true] at this
                rw [nums_hit hkk, List.length_append]
                exact this
              · simp only [if_neg e] at this
                have hne : (opN ops k).k ≠ (r : Int) := by rw [hkk]; omega
                rw [nums_miss hne]
                exact this)
            have HB2 : Hid (Below w.heap.size w (w2.setCell ⟨N, q, none⟩ (.slice na ((nums ops (q : Int) k).length + 1) nc))) := hideIt (hb2.setCell (p := ⟨N, q, none⟩) hmid.lo _)
            clear hr2 ho2 hg2 hob2 hmid hP2 hb2 HT2 HF2
            go_upto_region 7 with fail
            go_region_law (refine step_append_run (by rfl) _ _ 27 (by rfl) _ _ _ w2 (by rfl) (by rfl) HR2.out ?_)
            all_goals
              go_wp2
              go_roundw
              case rel => exact ⟨k + 1, _, _, by omega, by go_num, HF.out, HB2.out⟩
              case measure => simp [intOf]; omega
        · have HM : Hid (SpAt (wr.alloc (.cells #[.int .i64 x.p, .int .i64 x.k, .int .i64 x.d, .int .i64 x.a, .int .i64 x.b, .int .i64 x.r, .int .i64 x.c, .int .i64 x.e] 34)) w.heap.size P N ops (k + 1) vs ns) := hideIt ((HP.out.alloc _).miss (fun q hq8 => by rw [HX.out]; omega))
          obtain ⟨xk, hxk⟩ : ∃ xk, x.k = xk := ⟨_, rfl⟩
          rw [hxk] at hq c1 HM
          by_cases h0 : 0 ≤ xk
          · have g1 : decide ((0 : Int) ≤ xk) = true := by simpa using h0
            have g2 : decide (xk < 8) = false := by simp; omega
            go_wp2
            go_roundw
            case rel => exact ⟨k + 1, _, _, by omega, by go_num, HM.out, belA HB.out _⟩
            case measure => simp [intOf]; omega
          · have g1 : decide ((0 : Int) ≤ xk) = false := by simpa using h0
            go_wp2
            go_roundw
            case rel => exact ⟨k + 1, _, _, by omega, by go_num, HM.out, belA HB.out _⟩
            case measure => simp [intOf]; omega
      · obtain rfl : k = ops.length := by omega
        go_wp2
        go_ret2
        exact ⟨_, _, _, _, rfl, HP.out, HB.out⟩
end Go.Proofs.Ytbkeelnflpfdiaa
