/-
  Chapter 11.3, the document's search: what it works on.
  Chapter 11.3, the document's search at a row of all: whether the steps, one transaction behind the other, tell what they told.
  Chapter 11.3, the document's search, walked.
  Chapter 11.3, the document's Sees, walked.
-/
import Derived.Test.YtibdchahallbjabDoorNbWZ
import Derived.Test.YtibdchahallbjabDoorFiWZ
import Derived.Test.YtibdchahallbjabDoorSeP
namespace Go.Proofs.YtibdchahallbjabDoor
open Go.RowKit

def allZ (all : List Nat) (i : Nat) : Nat := all[i]?.getD 0
theorem allZ_at {all : List Nat} {i : Nat} (h : i < all.length) : allZ all i = all[i] := by unfold allZ; rw [List.getElem?_eq_getElem h]; rfl
/-- What lies below, and stays. -/
structure DsE (w0 : World) (d : List Stp) (all : List Nat) (I D Q O : Nat) (ia da : Option Addr) (ic dc Mw n : Nat) : Prop where
  ib : w0.cell? ⟨I, 0, none⟩ = some (.slice ia all.length ic)
  ih : HasI w0 (.slice ia all.length ic) (natI all)
  db : w0.cell? ⟨D, 0, none⟩ = some (.slice da d.length dc)
  dq : StpsQ w0 da d
  qb : w0.cell? ⟨Q, 0, none⟩ = some (.map (some Mw))
  sn : SnAt w0 0 Mw n (sn2 d 8)
  oc : ∃ v, w0.cell? ⟨O, 0, none⟩ = some v
  ob : ∃ cur t, w0.heap[O]? = some (.cells cur t (0, 0))
def fn34 (r I D Q O : Nat) : Value := .func (Fn.func 34) #[] #[.pointer (some ⟨r, 0, none⟩), .pointer (some ⟨I, 0, none⟩), .pointer (some ⟨D, 0, none⟩), .pointer (some ⟨Q, 0, none⟩), .pointer (some ⟨O, 0, none⟩), .pointer (some ⟨r + 2, 0, none⟩), .pointer (some ⟨r + 3, 0, none⟩)]
/-- Its own boxes: the row's, the marks, their box, its own. -/
structure DsB (w0 : World) (n : Nat) (f : Value) (w : World) (B : Nat → Bool) : Prop where
  bel : Below w0.heap.size w0 w
  ob : ∃ cur t, w.heap[w0.heap.size]? = some (.cells cur t (0, 0))
  oc : ∃ v, w.cell? ⟨w0.heap.size, 0, none⟩ = some v
  bt : BitsAt w (w0.heap.size + 1) n B
  ub : w.cell? ⟨w0.heap.size + 2, 0, none⟩ = some (.slice (some ⟨w0.heap.size + 1, 0, none⟩) n n)
  tc : w.cell? ⟨w0.heap.size + 3, 0, none⟩ = some f
structure DsA (w0 : World) (n : Nat) (f : Value) (w : World) (B : Nat → Bool) (row : List Nat) : Prop where
  bx : DsB w0 n f w B
  rw_ : ∃ v, w.cell? ⟨w0.heap.size, 0, none⟩ = some v ∧ RowAt w (w0.heap.size + 4) v (natI row)
section
variable {w0 : World} {n : Nat} {f : Value} {w w' : World} {B : Nat → Bool} {row : List Nat}
theorem DsB.lt (h : DsB w0 n f w B) : w0.heap.size + 3 < w.heap.size := World.block_lt_of_cell? w _ h.tc
theorem DsB.fz (h : DsB w0 n f w B) : w.frozen? ⟨w0.heap.size, 0, none⟩ = false := by
  obtain ⟨cur, t, hc⟩ := h.ob
  exact frozen_of_row w _ 0 cur t hc
theorem DsB.kept (h : DsB w0 n f w B) (hk : ∀ j, j < w0.heap.size + 4 → w'.heap[j]? = w.heap[j]?) (hb : Below w0.heap.size w0 w') : DsB w0 n f w' B := by
  obtain ⟨cur, t, hc⟩ := h.ob
  obtain ⟨v, hv⟩ := h.oc
  have k0 := hk w0.heap.size (by omega)
  have k1 := hk (w0.heap.size + 1) (by omega)
  have k2 := hk (w0.heap.size + 2) (by omega)
  have k3 := hk (w0.heap.size + 3) (by omega)
  exact ⟨hb, ⟨cur, t, k0.trans hc⟩, ⟨v, (World.cell?_of_block (a := ⟨w0.heap.size, 0, none⟩) k0).trans hv⟩, h.bt.block k1, (World.cell?_of_block (a := ⟨w0.heap.size + 2, 0, none⟩) k2).trans h.ub, (World.cell?_of_block (a := ⟨w0.heap.size + 3, 0, none⟩) k3).trans h.tc⟩
theorem DsA.below (h : DsA w0 n f w B row) (hb : Below w.heap.size w w') : DsA w0 n f w' B row := by
  have hl := h.bx.lt
  obtain ⟨v, hv, hr⟩ := h.rw_
  exact ⟨h.bx.kept (fun j hj => hb.block j (by omega)) (belJ h.bx.bel hb), v, (hb.cell (p := ⟨w0.heap.size, 0, none⟩) (by show w0.heap.size < _; omega)).trans hv, hr.belowR hb⟩
theorem DsA.same {B' : Nat → Bool} (h : DsA w0 n f w B row) (e : ∀ k, k < n → B k = B' k) : DsA w0 n f w B' row :=
  ⟨⟨h.bx.bel, h.bx.ob, h.bx.oc, h.bx.bt.same e, h.bx.ub, h.bx.tc⟩, h.rw_⟩
theorem DsB.lay (h : DsB w0 n f w B) {v : Value} (hr : RowAt w (w0.heap.size + 4) v (natI row)) : DsA w0 n f (w.setCell ⟨w0.heap.size, 0, none⟩ v) B row := by
  obtain ⟨cur, t, hc⟩ := h.ob
  obtain ⟨u, hu⟩ := h.oc
  obtain ⟨cur', hc', _⟩ := heap_setCell hc 0 v
  refine ⟨⟨h.bel.setCell (p := ⟨w0.heap.size, 0, none⟩) (Nat.le_refl _) _, ⟨cur', t, hc'⟩, ⟨v, World.cell?_setCell_same _ _ _ hu⟩, h.bt.other (p := ⟨w0.heap.size, 0, none⟩) (by show w0.heap.size + 1 ≠ w0.heap.size; omega) _, ?_, ?_⟩, v, World.cell?_setCell_same _ _ _ hu, hr.setOther (p := ⟨w0.heap.size, 0, none⟩) (by show w0.heap.size < w0.heap.size + 4; omega) _⟩
  · exact (World.cell?_setCell_other _ _ _ _ (blkNe (by omega))).trans h.ub
  · exact (World.cell?_setCell_other _ _ _ _ (blkNe (by omega))).trans h.tc
theorem DsB.mark (h : DsB w0 n f w B) {k : Nat} (hk : k < n) (x : Bool) : DsB w0 n f (w.setCell ⟨w0.heap.size + 1, k, none⟩ (.bool x)) (fun i => if i = k then x else B i) := by
  obtain ⟨cur, t, hc⟩ := h.ob
  obtain ⟨u, hu⟩ := h.oc
  refine ⟨h.bel.setCell (p := ⟨w0.heap.size + 1, k, none⟩) (by show w0.heap.size ≤ w0.heap.size + 1; omega) _, ⟨cur, t, ?_⟩, ⟨u, ?_⟩, h.bt.put hk x, ?_, ?_⟩
  · exact (Below.heap_setCell w ⟨w0.heap.size + 1, k, none⟩ _ w0.heap.size (by show w0.heap.size ≠ w0.heap.size + 1; omega)).trans hc
  · exact (World.cell?_setCell_other _ _ _ _ (blkNe (by omega))).trans hu
  · exact (World.cell?_setCell_other _ _ _ _ (blkNe (by omega))).trans h.ub
  · exact (World.cell?_setCell_other _ _ _ _ (blkNe (by omega))).trans h.tc
theorem DsA.mark (h : DsA w0 n f w B row) {k : Nat} (hk : k < n) (x : Bool) : DsA w0 n f (w.setCell ⟨w0.heap.size + 1, k, none⟩ (.bool x)) (fun i => if i = k then x else B i) row := by
  obtain ⟨v, hv, hr⟩ := h.rw_
  exact ⟨h.bx.mark hk x, v, (World.cell?_setCell_other _ _ _ _ (blkNe (by omega))).trans hv, hr.setOther (p := ⟨w0.heap.size + 1, k, none⟩) (by show w0.heap.size + 1 < w0.heap.size + 4; omega) _⟩
end
theorem DsE.lt {w0 : World} {d : List Stp} {all : List Nat} {I D Q O : Nat} {ia da : Option Addr} {ic dc Mw n : Nat} (h : DsE w0 d all I D Q O ia da ic dc Mw n) : I < w0.heap.size ∧ D < w0.heap.size ∧ Q < w0.heap.size ∧ O < w0.heap.size := by
  obtain ⟨v, hv⟩ := h.oc
  exact ⟨World.block_lt_of_cell? w0 _ h.ib, World.block_lt_of_cell? w0 _ h.db, World.block_lt_of_cell? w0 _ h.qb, World.block_lt_of_cell? w0 _ hv⟩
/-- What it tells. -/
def DsT (w0 : World) (O : Nat) (fv : Value) (F : List Nat → Bool) (all : List Nat) (f : Nat) (row : List Nat) (e : Ending) (w' : World) : Prop :=
  (e = .returned (.bool false) ∧ tryL F all f row = none ∧ DsA w0 all.length fv w' (fun i => memB row (allZ all i)) row) ∨
  ∃ c g off cap, e = .returned (.bool true) ∧ tryL F all f row = some c ∧ Below O w0 w' ∧ (∃ cur t, w'.heap[O]? = some (.cells cur t (0, 0))) ∧ w'.cell? ⟨O, 0, none⟩ = some (.slice (some ⟨g, off, none⟩) c.length cap) ∧ HasI w' (.slice (some ⟨g, off, none⟩) c.length cap) (natI c)
theorem mark_on {all row : List Nat} {k : Nat} (hk : k < all.length) (hn : all.Nodup) (i : Nat) (hi : i < all.length) : (if i = k then true else memB row (allZ all i)) = memB (row ++ [all[k]]) (allZ all i) := by
  rw [memB_app, allZ_at hi]
  by_cases e : i = k
  · subst e; simp
  · have : ¬ all[i] = all[k] := fun h => e ((List.getElem_inj hn).1 h)
    rw [if_neg e, if_neg this]
theorem mark_off {all row : List Nat} {k : Nat} (hk : k < all.length) (hn : all.Nodup) (hm : memB row all[k] = false) (i : Nat) (hi : i < all.length) : (if i = k then false else memB (row ++ [all[k]]) (allZ all i)) = memB row (allZ all i) := by
  by_cases e : i = k
  · subst e; rw [if_pos rfl, allZ_at hi, hm]
  · rw [if_neg e, ← mark_on hk hn i hi, if_neg e]
end Go.Proofs.YtibdchahallbjabDoor

namespace Go.Proofs.YtibdchahallbjabDoor
open Go.RowKit

section
variable (w : World) {ops : Array Oper} {rest : List Oper} {o : Oper} {a : Act} {Q : Exit → Act → World → Prop}
theorem wpList_look_t (hg : o.guard = none) (m k : Operand) (hop : o.op = Op.lookup 73 m k false) (M n : Nat) (f : Int → Int → Int → Option Nat)
    (hm : a.eval m = .map (some M)) (h : MapT w M n f) (p q s : Int) (hk : a.eval k = tripV p q s) (wf : Wf3 p q s) (val : Value) (hv : (f p q s = none ∧ val = .slice none 0 0) ∨ ∃ g, f p q s = some g ∧ val = two g)
    (hK : wpList Tryd.prog ops Q rest (a.put o.dst val) w) : wpList Tryd.prog ops Q (o :: rest) a w := by
  refine wpList_plain hg fun K' hK' => ?_
  have hrun : (Instr.lookup 73 (.map (some M)) (tripV p q s) false).run Tryd.prog w = .ok val w := by
    have := h.look wf
    rcases hv with ⟨h1, h2⟩ | ⟨g, h1, h2⟩
    · rw [h1] at this; rw [h2]; exact this
    · rw [h1] at this; rw [h2]; exact this
  unfold Oper.wp
  simp [execOp, hop, hm, hk, hrun, Result.andThen]
  exact hK' _ _ hK
end
theorem run_append_no (w : World) (b : Nat) (va : Option Addr) (vc : Nat) (ty : TypeId) : (Builtin.append_ #[29, 29] ty #[.slice (some ⟨b, 0, none⟩) 0 0, .slice va 0 vc]).run Tryd.prog w = .ok (.slice (some ⟨b, 0, none⟩) 0 0) w := by
  obtain ⟨i, hi, hz, hsz, hby⟩ := info_parts' info3
  cases va with
  | none => simp [Builtin.append_, run_underlying Tryd.underlying29, sizeOf, typeInfo, hi, Builtin.lenOf, Builtin.firstCells, storeCells]
  | some a => exact run_append_room_cells w 29 ty 3 i Tryd.underlying29 hi b 0 0 0 a 0 vc [] (by simp) (fun j u h => by simp at h) (fun u h => by cases h) (Nat.le_refl _) (fun j h => absurd h (by simp)) (fun j h => absurd h (by simp))
theorem filter_tx {d : List Stp} (hd : DOk d) (t : Nat) : d.filter (fun s => txS s == t) = d.filter (fun s => s.p == (t : Int)) := by
  refine List.filter_congr fun s hs => ?_
  obtain ⟨i, hi, rfl⟩ := List.getElem_of_mem hs
  have := (hd i hi).1
  rw [stZ_at hi] at this
  rw [Bool.eq_iff_iff]
  unfold txS
  simp
  omega
/-- What both maps tell. -/
structure BoAt (wr : World) (Mw n Mg m : Nat) (F G : Int → Int → Int → Option (Int × Int)) : Prop where
  wa : SnAt wr 0 Mw n F
  go : SnAt wr 0 Mg m G

set_option maxRecDepth 100000 in
set_option maxHeartbeats 8000000 in
theorem full_any (d : List Stp) (hd : DOk d) (hn : d.length ≤ 60) (all : List Nat) (hal : all.length ≤ 8) (hw : Within d all) (row : List Nat) (hnd : row.Nodup) (hs : ∀ x ∈ row, x ∈ all) (hl : row.length = all.length)
    (w0 : World) (I D Q O : Nat) (ia da : Option Addr) (ic dc Mw n : Nat) (hE : DsE w0 d all I D Q O ia da ic dc Mw n) (w : World) (hc : DsA w0 all.length (fn34 w0.heap.size I D Q O) w (fun i => memB row (allZ all i)) row) :
    Calls Tryd.prog 34 #[.pointer (some ⟨w0.heap.size, 0, none⟩), .pointer (some ⟨I, 0, none⟩), .pointer (some ⟨D, 0, none⟩), .pointer (some ⟨Q, 0, none⟩), .pointer (some ⟨O, 0, none⟩), .pointer (some ⟨w0.heap.size + 2, 0, none⟩), .pointer (some ⟨w0.heap.size + 3, 0, none⟩)] w fun e w' => DsT w0 O (fn34 w0.heap.size I D Q O) (fitB d) all 0 row e w' := by
  have HC := hideIt hc
  have HE := hideIt hE
  obtain ⟨v, hv, hrow⟩ := hc.rw_
  obtain ⟨va, vc, rfl⟩ := hrow.slice
  have HRw := hideIt hrow
  have HTr : Hid (tryL (fitB d) all 0 row = if fitB d row then some row else none) := rfl
  have HFit := hideIt (full_fit hd hw hnd hs hl)
  have HSo := hideIt (ser_ok hd row)
  have HCell : Hid (∀ j (h : j < row.length), ∃ g off, va = some ⟨g, off, none⟩ ∧ ∀ W, Below w.heap.size w W → W.cell? ⟨g, off + j, none⟩ = some (.int .i64 (row[j] : Int))) := fun j h => by
    obtain ⟨a2, c2, e2, _, hcell⟩ := hrow.hasI
    injection e2 with e3 e4 e5
    subst e3 e5
    obtain ⟨g, off, e, hc⟩ := hcell j (by rw [natI_len]; exact h)
    exact ⟨g, off, e, fun W hW => (hW.cell (p := ⟨g, off + j, none⟩) (World.block_lt_of_cell? w _ hc)).trans (by rw [hc]; simp [natI])⟩
  have HSer : Hid (∀ i (h : i < row.length), serL txS d (row.take (i + 1)) = serL txS d (row.take i) ++ d.filter fun s => s.p == (row[i] : Int)) := fun i h => by
    rw [List.take_succ_eq_append_getElem h, serL_snoc, filter_tx hd]
  have HBig : Hid (∀ i, (serL txS d (row.take i)).length ≤ 480) := fun i => by
    have h2 := ser_len d (row.take i)
    have h3 : (row.take i).length * d.length ≤ 8 * 60 := Nat.mul_le_mul (by rw [List.length_take]; omega) hn
    omega
  have HBe := hideIt hc.bx.bel
  have HWf : Hid (∀ a b c v, sn2 d 8 a b c = some v → Wf3 a b c) := fun a b c v h => sn2_wf hd (by omega) h
  have HV0 : Hid (w.cell? ⟨w0.heap.size, 0, none⟩ = some (.slice va all.length vc)) := by
    show _ = _
    rw [hv, natI_len, hl]
  have HDb : Hid (∀ W, Below w.heap.size w W → W.cell? ⟨D, 0, none⟩ = some (.slice da d.length dc)) := fun W hW => ((belJ hc.bx.bel hW).cell (p := ⟨D, 0, none⟩) hE.lt.2.1).trans hE.db
  have HDq : Hid (∀ W, Below w.heap.size w W → StpsQ W da d) := fun W hW => hE.dq.below (belJ hc.bx.bel hW)
  have x1 := (hc.bx.bel.cell (p := ⟨I, 0, none⟩) hE.lt.1).trans hE.ib
  rw [natI_len] at hv HRw
  have hrl : row.length ≤ 8 := by omega
  rw [hl] at hv
  clear hc hE hrow hd hnd hs hw
  go_enter Tryd.func34, Tryd.ntmps34
  go_wp2
  clear x1
  go_loopw [8, 26] (fun u i wr => ∃ k : Nat, k ≤ row.length ∧ i = .int .i64 k ∧ wr.ownsRow w.heap.size 62 3 u (serL txS d (row.take k)).length (stpC (serL txS d (row.take k))) ∧ Below w.heap.size w wr) (fun _ i _ => row.length - (intOf i).toNat)
  case atStart => exact ⟨0, Nat.zero_le _, rfl, World.ownsRow_nil _ _ _ _, Below.refl _ _⟩
  case round =>
    clear hv
    obtain ⟨k, hk, rfl, ho, hb⟩ := hrel
    have HO := hideIt ho
    have HB := hideIt hb
    clear ho hb
    obtain ⟨ua, uc, hu⟩ := ownsRow_slice HO.out
    subst hu
    by_cases hkl : k < row.length
    · obtain ⟨g, go, rfl, hR0⟩ := HCell.out k hkl
      have HR0 := hideIt hR0
      have HS := hideIt (HSer.out k hkl)
      have hbg := HBig.out k
      have hkl' : (k : Int) < all.length := by omega
      have r0 := HR0.out wr HB.out
      have r1 := HDb.out wr HB.out
      clear hR0
      generalize row[k] = t at HR0 HS r0
      generalize serL txS d (row.take k) = E at HO HS hbg ⊢
      go_wp2
      clear r0 r1
      go_loopw [8, 32] (fun u i wi => ∃ j : Nat, j ≤ d.length ∧ i = .int .i64 j ∧ wi.ownsRow w.heap.size 62 3 u (E ++ (d.take j).filter fun s => s.p == (t : Int)).length (stpC (E ++ (d.take j).filter fun s => s.p == (t : Int))) ∧ Below w.heap.size w wi) (fun _ i _ => d.length - (intOf i).toNat)
      case atStart => exact ⟨0, Nat.zero_le _, rfl, by simpa using HO.out, HB.out⟩
      case round =>
        clear HO HB
        obtain ⟨j, hj, rfl, ho, hb⟩ := hrel
        have HO := hideIt ho
        have HB := hideIt hb
        clear ho hb
        obtain ⟨ya, yc, hy⟩ := ownsRow_slice HO.out
        subst hy
        have hEl : (E ++ (d.take j).filter fun s => s.p == (t : Int)).length ≤ 540 := by
          rw [List.length_append]
          have h1 := List.length_filter_le (fun s : Stp => s.p == (t : Int)) (d.take j)
          have h2 : (d.take j).length ≤ d.length := by rw [List.length_take]; omega
          omega
        by_cases hjl : j < d.length
        · obtain ⟨b, off, rfl, hlt, hst⟩ : ∃ b off, da = some ⟨b, off, none⟩ ∧ b < w.heap.size ∧ StpsAt w b off d := by
            rcases HDq.out w (Below.refl _ _) with h | h
            · subst h; simp at hjl
            · exact h
          obtain ⟨c0, c1, c2⟩ := (hst j hjl).below hlt HB.out
          have HX := hideIt (filter_take (p := fun s : Stp => s.p == (t : Int)) hjl)
          generalize d[j] = x at c0 c1 c2 HX
          have hjl' : (j : Int) < d.length := by omega
          have HX2 : Hid (E ++ (d.take (j + 1)).filter (fun s => s.p == (t : Int)) = (E ++ (d.take j).filter (fun s => s.p == (t : Int))) ++ if (x.p == (t : Int)) = true then [x] else []) := by
            show _ = _
            rw [HX.out, List.append_assoc]
          clear HX hst
          generalize E ++ (d.take j).filter (fun s => s.p == (t : Int)) = G at HO HX2 hEl ⊢
          have HBA : Hid (Below w.heap.size w (wr.alloc (.cells #[.int .i64 x.p, .int .i64 x.k, .int .i64 x.m] 62))) := belA HB.out _
          have HOA : Hid ((wr.alloc (.cells #[.int .i64 x.p, .int .i64 x.k, .int .i64 x.m] 62)).ownsRow w.heap.size 62 3 (.slice ya G.length yc) G.length (stpC G)) := ownsRow_same HO.out fun b' hb' => Below.heap_alloc _ _ _ (ownsRow_block HO.out b' hb').2.1
          have d0 : (wr.alloc (.cells #[.int .i64 x.p, .int .i64 x.k, .int .i64 x.m] 62)).cell? ⟨wr.heap.size, 0, none⟩ = some (.int .i64 x.p) := by simp
          have d1 : (wr.alloc (.cells #[.int .i64 x.p, .int .i64 x.k, .int .i64 x.m] 62)).cell? ⟨wr.heap.size, 1, none⟩ = some (.int .i64 x.k) := by simp
          have d2 : (wr.alloc (.cells #[.int .i64 x.p, .int .i64 x.k, .int .i64 x.m] 62)).cell? ⟨wr.heap.size, 2, none⟩ = some (.int .i64 x.m) := by simp
          clear HO HB
          go_upto_region 9 with fail
          generalize wr.alloc _ = W at HBA HOA d0 d1 d2 ⊢
          generalize wr.heap.size = Z at d0 d1 d2 ⊢
          clear c0 c1 c2
          by_cases he : x.p = (t : Int)
          · have he' : (x.p == (t : Int)) = true := by simp [he]
            rw [if_pos he'] at HX2
            clear he
            have hO3 : (W.alloc (.cells #[.int .i64 x.p, .int .i64 x.k, .int .i64 x.m] 62)).ownsRow w.heap.size 62 3 (.slice ya G.length yc) G.length (stpC G) := ownsRow_same HOA.out fun b' hb' => Below.heap_alloc _ _ _ (ownsRow_block HOA.out b' hb').2.1
            have hSA : StpAt (W.alloc (.cells #[.int .i64 x.p, .int .i64 x.k, .int .i64 x.m] 62)) W.heap.size 0 x := by
              have e := heap_alloc_new W (.cells #[.int .i64 x.p, .int .i64 x.k, .int .i64 x.m] 62)
              exact ⟨cell_of_row _ _ _ _ 62 (0, 0) e, cell_of_row _ _ _ _ 62 (0, 0) e, cell_of_row _ _ _ _ 62 (0, 0) e⟩
            have hws := HBA.out.size
            obtain ⟨n1, w6, hr6, ho6, hg6, hob6⟩ := run_appS hO3 hSA (by simp; omega) (by omega) 23
            have HB6 : Hid (Below w.heap.size w w6) := (belA HBA.out _).grown hg6 (by simp; omega) (fun b' hb' => (ownsRow_block hO3 b' hb').1)
            obtain ⟨na, nc, hn1⟩ := ownsRow_slice ho6
            have HO6 : Hid (w6.ownsRow w.heap.size 62 3 n1 (G ++ [x]).length (stpC (G ++ [x]))) := by
              rw [List.length_append]; exact ho6
            have HR6 := hideIt hr6
            clear hO3 hSA ho6 hg6 hob6 hr6
            subst hn1
            go_wp2_with (at_builtin; refine wpList_append_run _ rfl _ _ 23 rfl _ _ _ w6 rfl rfl HR6.out ?_)
            go_roundw
            case rel => exact ⟨j + 1, by omega, by go_num, by rw [HX2.out]; exact HO6.out, HB6.out⟩
            case measure => simp [intOf]; omega
          · have he' : (x.p == (t : Int)) = false := by simp [he]
            rw [if_neg (by rw [he']; simp), List.append_nil] at HX2
            go_wp2
            go_roundw
            case rel => exact ⟨j + 1, by omega, by go_num, by rw [HX2.out]; exact HOA.out, HBA.out⟩
            case measure => simp [intOf]; omega
        · obtain rfl : j = d.length := by omega
          rw [List.take_length] at HO hEl ⊢
          go_wp2
          go_roundw
          case rel => exact ⟨k + 1, by omega, by go_num, by rw [HS.out]; exact HO.out, HB.out⟩
          case measure => simp [intOf]; omega
    · obtain rfl : k = row.length := by omega
      have hm5 : (serL txS d row).length ≤ 480 := by have := HBig.out row.length; rwa [List.take_length] at this
      rw [List.take_length] at HO ⊢
      obtain ⟨a', c', hv', hc', hq'⟩ := stpsQ_own HO.out
      injection hv' with e1 e2 e3
      subst e1 e3
      have HSee := hideIt (seen_any (serL txS d row) HSo.out ua uc wr (by omega) hq')
      have hkl' : ¬ (row.length : Int) < all.length := by omega
      clear hq' hc' HO HSer HBig HDq HDb HSo
      generalize serL txS d row = m' at HSee HFit hm5 ⊢
      go_wp2_with fail
      refine HSee.out.mono ?_
      rintro e w1 ⟨Mg, rfl, hMg, hsn, hb1⟩
      have HB1 := hideIt (belJ HB.out hb1)
      have HG1 := hideIt (hsn.low (Nat.zero_le _))
      clear HSee hsn hb1 hMg HB
      have hsw := HE.out.sn.below (belJ HBe.out HB1.out) (Nat.le_refl _)
      obtain ⟨fb, hf1, hf2, hf3⟩ := hsw.tells
      obtain ⟨fg, hg1, hg2, hg3⟩ := HG1.out.tells
      have HF1 := hideIt hf1
      have HF2 := hideIt hf2
      have HF3 := hideIt hf3
      have HH1 := hideIt hg1
      have HH2 := hideIt hg2
      have HH3 := hideIt hg3
      have q1 := ((belJ HBe.out HB1.out).cell (p := ⟨Q, 0, none⟩) HE.out.lt.2.2.1).trans HE.out.qb
      clear hsw hf1 hf2 hf3 hg1 hg2 hg3
      go_wp2_with (at_range; refine wpList_range_t _ rfl _ rfl Mw n fb rfl HF1.out ?_; intro w2 hr2 hg2 hs2 hl2)
      have HR2 := hideIt hr2
      have HB2 : Hid (Below w1.heap.size w1 w2) := (Below.refl _ _).grown hg2 (Nat.le_refl _) (fun k hk => by cases hk)
      clear hr2 hg2 hs2 hl2 q1
      go_frame
      go_loopw [] (fun wr => ∃ left : Int → Int → Int → Bool, RangeT wr Mw w1.heap.size n fb left ∧ (∀ a b c v, sn2 d 8 a b c = some v → left a b c = true ∨ sn2 m' 8 a b c = some v) ∧ Below w1.heap.size w1 wr) (fun wr => wr.rangeLeft Mw w1.heap.size)
      case atStart => exact ⟨_, HR2.out, fun a b c v h => .inl (by rw [HF2.out, h]; rfl), HB2.out⟩
      case round =>
        clear HR2 HB2
        obtain ⟨left, hrg, hin, hb⟩ := hrel
        have HIn := hideIt hin
        have HB := hideIt hb
        have HBw := hideIt (belJ HB1.out hb)
        clear hin hb
        have HBad : Hid (∀ p q s v, sn2 d 8 p q s = some v → sn2 m' 8 p q s ≠ some v → tryL (fitB d) all 0 row = none) := fun p q s v h1 h2 => by
          show tryL (fitB d) all 0 row = none
          rw [HTr.out, if_neg fun h => h2 (HFit.out.1 h p q s v h1)]
        have HGood : Hid ((∀ p q s v, sn2 d 8 p q s = some v → sn2 m' 8 p q s = some v) → tryL (fitB d) all 0 row = some row) := fun h => by
          show tryL (fitB d) all 0 row = some row
          rw [HTr.out, if_pos (HFit.out.2 h)]
        clear HTr HFit
        go_wp2_with (at_next; refine wpList_next_t _ rfl _ rfl Mw w1.heap.size n fb left rfl hrg ?_ ?_)
        · intro hleft
          have HT := hideIt (HGood.out fun p q s v h => (HIn.out p q s v h).elim (fun h' => by rw [hleft p q s (HWf.out p q s v h)] at h'; cases h') id)
          have x0 := (HBw.out.cell (p := ⟨w0.heap.size, 0, none⟩) (World.block_lt_of_cell? w _ HV0.out)).trans HV0.out
          have HBo := hideIt (belJ HBe.out HBw.out)
          have hOl := HE.out.lt.2.2.2
          obtain ⟨vo, hvo⟩ := HE.out.oc
          obtain ⟨cur, tt, hco⟩ := HE.out.ob
          have y2 := (HBo.out.cell (p := ⟨O, 0, none⟩) hOl).trans hvo
          have y3 := (HBo.out.frozen (p := ⟨O, 0, none⟩) hOl).trans (frozen_of_row w0 _ 0 cur tt hco)
          have hOs := HBo.out.size
          have hFl : O < wr.heap.size := by omega
          have hFn : ¬ O = wr.heap.size := by omega
          have hFn' : ¬ wr.heap.size = O := by omega
          have hRs : w0.heap.size + 4 ≤ w.heap.size := by have := HC.out.bx.lt; omega
          have hws := HBw.out.size
          have hGl : w0.heap.size < wr.heap.size := by omega
          have hGn : ¬ w0.heap.size = wr.heap.size := by omega
          have hGn' : ¬ wr.heap.size = w0.heap.size := by omega
          have HCo := hideIt ((HBo.out.block O hOl).trans hco)
          clear hleft hrg hvo hco
          by_cases h0 : 0 < row.length
          · obtain ⟨rb, ro, rfl, _⟩ := HCell.out 0 h0
            have hll : (natI row).length = all.length := by rw [natI_len, hl]
            have HCe : Hid (∀ j (h : j < (natI row).length), (wr.alloc (.cells #[] 3)).cell? ⟨rb, ro + j, none⟩ = some (.int .i64 (natI row)[j])) := fun j hj => by
              have hj' : j < row.length := by rwa [natI_len] at hj
              obtain ⟨rb', ro', e, hcc⟩ := HCell.out j hj'
              injection e with e
              injection e with e1 e2
              subst e1 e2
              have := hcc wr HBw.out
              rw [World.cell?_alloc_lt _ _ ⟨rb, ro + j, none⟩ (World.block_lt_of_cell? wr _ this), this]
              simp [natI]
            have HSn : Hid (natI row = natI row ∧ (natI row).length = all.length) := ⟨rfl, hll⟩
            clear hll
            go_wp2_with (at_builtin; refine wpList_append_all rfl _ _ rfl ⟨wr.heap.size, 0, none⟩ rfl (natI row) ?c1 ?c2 rb ro vc ?c3 HCe.out ?_)
            case c1 => rw [HSn.out.2]; omega
            case c2 => rw [HSn.out.2]; omega
            case c3 => rw [HSn.out.2]
            intro v' w3 hr hgw
            obtain ⟨xa, xc, rfl⟩ := hr.slice
            have hsz : (wr.alloc (.cells #[] 3)).heap.size = wr.heap.size + 1 := by simp
            have hb3 : Below O w0 w3 := ((HBo.out.mono (Nat.le_of_lt hOl)).alloc (by omega) (.cells #[] 3)).grown hgw (by omega) (fun k hk => by cases hk)
            have hb4 : Below wr.heap.size wr w3 := (belA (Below.refl _ _) (.cells #[] 3)).grown hgw (by omega) (fun k hk => by cases hk)
            have z2 := (hb4.cell (p := ⟨O, 0, none⟩) hFl).trans y2
            have z3 := (hb4.frozen (p := ⟨O, 0, none⟩) hFl).trans y3
            have HI3 : Hid (HasI (w3.setCell ⟨O, 0, none⟩ (.slice xa (natI row).length xc)) (.slice xa (natI row).length xc) (natI row)) := (hr.setOther (p := ⟨O, 0, none⟩) (by show O < wr.heap.size + 1; omega) _).hasI
            have HC3 : Hid ((w3.setCell ⟨O, 0, none⟩ (.slice xa (natI row).length xc)).cell? ⟨O, 0, none⟩ = some (.slice xa (natI row).length xc)) := World.cell?_setCell_same _ _ _ z2
            have HK3 : Hid (∃ cur t, (w3.setCell ⟨O, 0, none⟩ (.slice xa (natI row).length xc)).heap[O]? = some (.cells cur t (0, 0))) := by
              obtain ⟨cur', hc', _⟩ := heap_setCell ((hb4.block O hFl).trans HCo.out) 0 (.slice xa (natI row).length xc)
              exact ⟨cur', tt, hc'⟩
            have HB3 : Hid (Below O w0 (w3.setCell ⟨O, 0, none⟩ (.slice xa (natI row).length xc))) := hb3.setCell (p := ⟨O, 0, none⟩) (Nat.le_refl _) _
            clear hr hgw hb3 hb4 y2 y3
            go_wp2
            go_ret
            refine Or.inr ?_
            obtain ⟨a9, c9, e9, h9, hcell9⟩ := HI3.out
            obtain ⟨g9, off9, e9', _⟩ := hcell9 0 (by rw [natI_len]; exact h0)
            injection e9 with f1 f2 f3
            subst f1 f3
            subst e9'
            have eL : (natI row).length = row.length := natI_len _
            have k1 := HI3.out
            have k2 := HC3.out
            have k3 := HB3.out
            have k4 := HK3.out
            rw [eL] at k1 k2 k3 k4 ⊢
            exact ⟨row, g9, off9, xc, rfl, HT.out, k3, k4, k2, k1⟩
          · have hr0 : row = [] := List.eq_nil_of_length_eq_zero (by omega)
            subst hr0
            have ha0 : all = [] := List.eq_nil_of_length_eq_zero (by simpa using hl.symm)
            subst ha0
            have HB3 : Hid (Below O w0 ((wr.setCell ⟨O, 0, none⟩ (.slice (some ⟨wr.heap.size, 0, none⟩) 0 0)).alloc (.cells #[] 3))) := ((HBo.out.mono (Nat.le_of_lt hOl)).setCell (p := ⟨O, 0, none⟩) (Nat.le_refl _) _).alloc (by simp; omega) (.cells #[] 3)
            have HC3 : Hid (((wr.setCell ⟨O, 0, none⟩ (.slice (some ⟨wr.heap.size, 0, none⟩) 0 0)).alloc (.cells #[] 3)).cell? ⟨O, 0, none⟩ = some (.slice (some ⟨wr.heap.size, 0, none⟩) 0 0)) := (World.cell?_alloc_lt _ _ ⟨O, 0, none⟩ (by simp; omega)).trans (World.cell?_setCell_same _ _ _ y2)
            have HK3 : Hid (∃ cur t, ((wr.setCell ⟨O, 0, none⟩ (.slice (some ⟨wr.heap.size, 0, none⟩) 0 0)).alloc (.cells #[] 3)).heap[O]? = some (.cells cur t (0, 0))) := by
              obtain ⟨cur', hc', _⟩ := heap_setCell HCo.out 0 (.slice (some ⟨wr.heap.size, 0, none⟩) 0 0)
              exact ⟨cur', tt, (Below.heap_alloc _ _ O (by simp; omega)).trans hc'⟩
            have HR6 := hideIt (run_append_no (wr.alloc (.cells #[] 3)) wr.heap.size va vc 29)
            simp only [List.length_nil] at x0 ⊢
            go_wp2_with (at_builtin; refine wpList_append_run _ rfl _ _ 29 rfl _ _ _ (wr.alloc (.cells #[] 3)) rfl rfl HR6.out ?_)
            go_ret
            exact Or.inr ⟨[], _, _, _, rfl, HT.out, HB3.out, HK3.out, HC3.out, ⟨_, _, rfl, Nat.le_refl _, fun i hi => absurd hi (by simp [natI])⟩⟩
        · intro p q s g w3 hwf hfq hlq hrg3 hlt3 hg3 hs3 hen
          have HB3 : Hid (Below w1.heap.size w1 w3) := HB.out.grown hg3 (by have := HB.out.size; omega) (fun k hk => by obtain rfl := Option.some.inj hk; exact Nat.le_refl _)
          obtain ⟨v, hv⟩ : ∃ v, sn2 d 8 p q s = some v := Option.isSome_iff_exists.1 (by rw [← HF2.out, hfq]; rfl)
          have hen' : (Instr.entry (.pointer (some ⟨w1.heap.size, 0, none⟩))).run Tryd.prog w3 = .ok (.tuple #[.agg #[.int .i64 p, .int .i64 q, .int .i64 s], .slice (some ⟨g, 0, none⟩) 2 2]) w3 := hen
          have hTw := HF3.out p q s g v hfq hv
          have HBA : Hid (Below w1.heap.size w1 (w3.alloc (.cells #[.int .i64 p, .int .i64 q, .int .i64 s] 62))) := belA HB3.out _
          have z0 := (hTw.below HBA.out hTw.lt).c0
          have z1 := (hTw.below HBA.out hTw.lt).c1
          have HMA := hideIt (HH1.out.below HBA.out HH1.out.lt)
          have HRA := hideIt (hrg3.kept (World.grownBy_alloc w3 (.cells #[.int .i64 p, .int .i64 q, .int .i64 s] 62) none) (by simp) (by simp))
          have HCA := hideIt (HC.out.below (belJ HB1.out HBA.out))
          have HBd := hideIt (HBad.out p q s v hv)
          have HVv := hideIt hv
          clear hrg hen hg3 hTw hv hfq
          cases hgq : fg p q s with
          | none =>
            have HN := hideIt (HBd.out (fun h => by have := HH2.out p q s; rw [hgq, h] at this; cases this))
            have HGq := hideIt hgq
            clear hgq
            go_upto_region 18 with (at_lookup; refine wpList_look_t _ rfl _ _ rfl Mg _ fg rfl HMA.out p q s rfl hwf (.slice none 0 0) (.inl ⟨HGq.out, rfl⟩) ?_)
            go_quiet (fail)
            rename_i nq
            have HCd := hideIt (HCA.out.below (below_drewN (Below.refl _ _) nq))
            go_wp2
            go_ret
            exact Or.inl ⟨rfl, HN.out, HCd.out⟩
          | some g' =>
            obtain ⟨u, hu⟩ : ∃ u, sn2 m' 8 p q s = some u := Option.isSome_iff_exists.1 (by rw [← HH2.out, hgq]; rfl)
            have hTu := HH3.out p q s g' u hgq hu
            have y0 := (hTu.below HBA.out hTu.lt).c0
            have y1 := (hTu.below HBA.out hTu.lt).c1
            have HGq := hideIt hgq
            have HU := hideIt hu
            clear hgq hu hTu
            obtain ⟨v1, v2⟩ := v
            obtain ⟨u1, u2⟩ := u
            dsimp only at z0 z1 y0 y1
            by_cases e1 : u1 = v1
            · have b1 : (u1 != v1) = false := by simp [e1]
              by_cases e2 : u2 = v2
              · have b2 : (u2 != v2) = false := by simp [e2]
                have R : Hid (∀ a b c v, sn2 d 8 a b c = some v → (left a b c && (!decide (a = p) || (!decide (b = q) || !decide (c = s)))) = true ∨ sn2 m' 8 a b c = some v) := fun a b c v h => by
                  by_cases e : a = p ∧ b = q ∧ c = s
                  · obtain ⟨rfl, rfl, rfl⟩ := e
                    rw [HVv.out] at h
                    rw [← h, HU.out, e1, e2]
                    exact .inr rfl
                  · rcases HIn.out a b c v h with h' | h'
                    · exact .inl (by rw [h', Bool.true_and]; by_cases f1 : a = p <;> by_cases f2 : b = q <;> simp_all)
                    · exact .inr h'
                clear e1 e2 HIn
                go_upto_region 18 with (at_lookup; refine wpList_look_t _ rfl _ _ rfl Mg _ fg rfl HMA.out p q s rfl hwf (.slice (some ⟨g', 0, none⟩) 2 2) (.inr ⟨g', HGq.out, rfl⟩) ?_)
                go_quiet (fail)
                rename_i nq
                have HBd := hideIt (below_drewN HBA.out nq)
                go_wp2
                go_roundw
                case rel => exact ⟨_, HRA.out.1, R.out, HBd.out⟩
                case measure => exact Nat.lt_of_le_of_lt (Nat.le_of_eq HRA.out.2) hlt3
              · have b2 : (u2 != v2) = true := by simp [e2]
                have HN := hideIt (HBd.out (fun h => by rw [HU.out] at h; have := Option.some.inj h; exact e2 (congrArg Prod.snd this)))
                clear e1 e2
                go_upto_region 18 with (at_lookup; refine wpList_look_t _ rfl _ _ rfl Mg _ fg rfl HMA.out p q s rfl hwf (.slice (some ⟨g', 0, none⟩) 2 2) (.inr ⟨g', HGq.out, rfl⟩) ?_)
                go_quiet (fail)
                rename_i nq
                have HCd := hideIt (HCA.out.below (below_drewN (Below.refl _ _) nq))
                go_wp2
                go_ret
                exact Or.inl ⟨rfl, HN.out, HCd.out⟩
            · have b1 : (u1 != v1) = true := by simp [e1]
              have HN := hideIt (HBd.out (fun h => by rw [HU.out] at h; have := Option.some.inj h; exact e1 (congrArg Prod.fst this)))
              clear e1
              go_upto_region 18 with (at_lookup; refine wpList_look_t _ rfl _ _ rfl Mg _ fg rfl HMA.out p q s rfl hwf (.slice (some ⟨g', 0, none⟩) 2 2) (.inr ⟨g', HGq.out, rfl⟩) ?_)
              go_quiet (fail)
              rename_i nq
              have HCd := hideIt (HCA.out.below (below_drewN (Below.refl _ _) nq))
              go_wp2
              go_ret
              exact Or.inl ⟨rfl, HN.out, HCd.out⟩
end Go.Proofs.YtibdchahallbjabDoor

namespace Go.Proofs.YtibdchahallbjabDoor
open Go.RowKit

set_option maxRecDepth 100000 in
set_option maxHeartbeats 8000000 in
theorem search_any (d : List Stp) (hd : DOk d) (hn : d.length ≤ 60) (all : List Nat) (hal : all.length ≤ 8) (han : all.Nodup) (hw : Within d all)
    (w0 : World) (I D Q O : Nat) (ia da : Option Addr) (ic dc Mw n : Nat) (hE : DsE w0 d all I D Q O ia da ic dc Mw n) :
    ∀ (f : Nat) (row : List Nat) (w : World), row.length + f = all.length → row.Nodup → (∀ x ∈ row, x ∈ all) → DsA w0 all.length (fn34 w0.heap.size I D Q O) w (fun i => memB row (allZ all i)) row →
    Calls Tryd.prog 34 #[.pointer (some ⟨w0.heap.size, 0, none⟩), .pointer (some ⟨I, 0, none⟩), .pointer (some ⟨D, 0, none⟩), .pointer (some ⟨Q, 0, none⟩), .pointer (some ⟨O, 0, none⟩), .pointer (some ⟨w0.heap.size + 2, 0, none⟩), .pointer (some ⟨w0.heap.size + 3, 0, none⟩)] w fun e w' => DsT w0 O (fn34 w0.heap.size I D Q O) (fitB d) all f row e w'
  | 0, row, w, hf, hnd, hs, hc => full_any d hd hn all hal hw row hnd hs (by omega) w0 I D Q O ia da ic dc Mw n hE w hc
  | f + 1, row, w, hf, hnd, hs, hc => by
    obtain ⟨v, hv, hrow⟩ := hc.rw_
    obtain ⟨va, vc, rfl⟩ := hrow.slice
    have HC := hideIt hc
    rw [natI_len] at hv
    have HTr : Hid (tryL (fitB d) all (f + 1) row = all.findSome? fun k => if memB row k then none else tryL (fitB d) all f (row ++ [k])) := rfl
    have HIh : Hid (∀ k w', memB row k = false → k ∈ all → DsA w0 all.length (fn34 w0.heap.size I D Q O) w' (fun i => memB (row ++ [k]) (allZ all i)) (row ++ [k]) → Calls Tryd.prog 34 #[.pointer (some ⟨w0.heap.size, 0, none⟩), .pointer (some ⟨I, 0, none⟩), .pointer (some ⟨D, 0, none⟩), .pointer (some ⟨Q, 0, none⟩), .pointer (some ⟨O, 0, none⟩), .pointer (some ⟨w0.heap.size + 2, 0, none⟩), .pointer (some ⟨w0.heap.size + 3, 0, none⟩)] w' fun e w'' => DsT w0 O (fn34 w0.heap.size I D Q O) (fitB d) all f (row ++ [k]) e w'') := fun k w' hm hk hc' =>
      search_any d hd hn all hal han hw w0 I D Q O ia da ic dc Mw n hE f (row ++ [k]) w' (by simp; omega) (List.nodup_append.2 ⟨hnd, by simp, fun x hx y hy e => by
        rw [List.mem_singleton.1 hy] at e
        subst e
        have := memB_iff.2 hx
        rw [hm] at this
        cases this⟩) (fun x hx => by
          rcases List.mem_append.1 hx with h | h
          · exact hs x h
          · rw [List.mem_singleton.1 h]; exact hk) hc'
    have HCell : Hid (∀ j (h : j < all.length), ∃ g off, ia = some ⟨g, off, none⟩ ∧ ∀ W, Below w0.heap.size w0 W → W.cell? ⟨g, off + j, none⟩ = some (.int .i64 (all[j] : Int))) := fun j h => by
      obtain ⟨a2, c2, e2, _, hcell⟩ := hE.ih
      injection e2 with e3 e4 e5
      subst e3 e5
      obtain ⟨g, off, e, hc⟩ := hcell j (by rw [natI_len]; exact h)
      exact ⟨g, off, e, fun W hW => (hW.cell (p := ⟨g, off + j, none⟩) (World.block_lt_of_cell? w0 _ hc)).trans (by rw [hc]; simp [natI])⟩
    have hne : ((row.length : Int) == (all.length : Int)) = false := by simp; omega
    have hrl : row.length < 8 := by omega
    have HNd := hideIt han
    have x0 := (hc.bx.bel.cell (p := ⟨I, 0, none⟩) hE.lt.1).trans hE.ib
    clear hc hrow hd hE hs hnd hw han
    go_enter Tryd.func34, Tryd.ntmps34
    go_wp2
    clear x0 hv hne
    go_loopw [84] (fun v wr => ∃ k : Nat, k ≤ all.length ∧ v = .int .i64 k ∧ (∀ j (h : j < all.length), j < k → (if memB row all[j] then none else tryL (fitB d) all f (row ++ [all[j]])) = none) ∧ DsA w0 all.length (fn34 w0.heap.size I D Q O) wr (fun i => memB row (allZ all i)) row) (fun v _ => all.length - (intOf v).toNat)
    case atStart => exact ⟨0, Nat.zero_le _, rfl, fun j _ hj => absurd hj (by omega), HC.out⟩
    case round =>
      clear HC
      obtain ⟨k, hk, rfl, hno, hc⟩ := hrel
      have HNo := hideIt hno
      have HC := hideIt hc
      clear hno hc
      by_cases hkn : k < all.length
      · have hkn' : (k : Int) < all.length := by omega
        obtain ⟨g, off, rfl, hcl⟩ := HCell.out k hkn
        have r0 := hcl wr HC.out.bx.bel
        have HNx : Hid ((if memB row all[k] then none else tryL (fitB d) all f (row ++ [all[k]])) = none → ∀ j (h : j < all.length), j < k + 1 → (if memB row all[j] then none else tryL (fitB d) all f (row ++ [all[j]])) = none) := fun h j hj hjk => by
          by_cases e : j = k
          · subst e; exact h
          · exact HNo.out j hj (by omega)
        have HS0 : Hid (∀ c, (if memB row all[k] then none else tryL (fitB d) all f (row ++ [all[k]])) = some c → tryL (fitB d) all (f + 1) row = some c) := fun c h => by
          show tryL (fitB d) all (f + 1) row = some c
          rw [HTr.out]
          exact findL_at (f := fun k => if memB row k then none else tryL (fitB d) all f (row ++ [k])) hkn h HNo.out
        have HOn := hideIt (fun i hi => mark_on (row := row) hkn HNd.out i hi)
        have HOff := hideIt (fun h i hi => mark_off (row := row) hkn HNd.out h i hi)
        have HMem := hideIt (List.getElem_mem hkn)
        have r1 := HC.out.bx.bt.bit k hkn
        have z1 := HC.out.bx.bt.fz k
        have r2 := HC.out.bx.ub
        rw [allZ_at hkn] at r1
        clear hcl
        generalize all[k] = x at r0 r1 HNx HS0 HOn HOff HMem
        obtain ⟨mb, hmb⟩ : ∃ mb, memB row x = mb := ⟨_, rfl⟩
        rw [hmb] at r1 HNx HS0 HOff
        have HMb := hideIt hmb
        clear hmb
        cases mb
        · have HA2 := hideIt ((HC.out.mark hkn true).same HOn.out)
          go_upto_region 27 with fail
          generalize wr.setCell _ _ = W2 at HA2 ⊢
          clear r0 r1 r2 z1 HC
          obtain ⟨v, hv, hrow⟩ := HA2.out.rw_
          obtain ⟨va2, vc2, rfl⟩ := hrow.slice
          rw [natI_len] at hv hrow
          have HRow2 : Hid (RowAt (W2.alloc (.cells #[.int .i64 (x : Int)] 3)) (w0.heap.size + 4) (.slice va2 row.length vc2) (natI row)) := hrow.belowR (belA (Below.refl _ _) _)
          have hFs := HA2.out.bx.lt
          have HBx := hideIt HA2.out.bx
          clear hrow
          go_wp2_with (at_builtin; refine wpList_append_row rfl _ _ rfl (w0.heap.size + 4) _ (natI row) rfl HRow2.out W2.heap.size 1 (x : Int) rfl ?c1 ?c2 ?c3 ?_)
          case c2 => rw [natI_len]; omega
          case c3 => omega
          intro v' w3 ht
          obtain ⟨xa, xc, hv'⟩ := ht.row.slice
          rw [show (natI row ++ [(x : Int)]).length = row.length + 1 by simp [natI_len]] at hv'
          subst hv'
          have hb3 : Below w0.heap.size w0 w3 := ((HBx.out.bel).alloc (HBx.out.bel.size) (.cells #[.int .i64 (x : Int)] 3)).grown ht.grown (by have := HBx.out.bel.size; simp; omega) (fun j hj => by have := (HRow2.out.lt j hj).1; omega)
          have hkb : ∀ j, j < w0.heap.size + 4 → w3.heap[j]? = W2.heap[j]? := fun j hj => by
            rw [ht.grown.block j (by simp; omega) (fun e => by have := (HRow2.out.lt j e.symm).1; omega)]
            exact Below.heap_alloc _ _ _ (by omega)
          have HBx3 := hideIt (HBx.out.kept hkb hb3)
          have HCn : Hid (DsA w0 all.length (fn34 w0.heap.size I D Q O) (w3.setCell ⟨w0.heap.size, 0, none⟩ (.slice xa (row.length + 1) xc)) (fun i => memB (row ++ [x]) (allZ all i)) (row ++ [x])) := HBx3.out.lay (by rw [natI_app]; exact ht.row)
          obtain ⟨vo, hvo⟩ := HBx3.out.oc
          have zvo := HBx3.out.fz
          have HCall := hideIt (HIh.out x _ HMb.out HMem.out HCn.out)
          have kk := HCn.out.bx.tc
          have kk0 := HBx3.out.tc
          unfold fn34 at kk kk0
          have hFF : ¬ w0.heap.size = w0.heap.size + 3 := by omega
          clear ht hb3 hkb HRow2 hv
          go_wp2_with fail
          refine HCall.out.mono ?_
          clear HCall kk kk0 hvo zvo HCn HBx3 HBx
          rintro e w4 (⟨rfl, hno2, hc4⟩ | ⟨c, g4, o4, c4, rfl, hsome, hb4, hk4, hv4, hi4⟩)
          · obtain ⟨v5, hv5, hr5⟩ := hc4.rw_
            obtain ⟨ya, yc, hv5'⟩ := hr5.slice
            rw [natI_len, List.length_append, List.length_singleton] at hv5'
            subst hv5'
            rw [natI_app] at hr5
            have hyc : row.length + 1 ≤ yc := by
              obtain ⟨a7, c7, e7, h7, _⟩ := hr5.hasI
              injection e7 with _ _ e8
              simp [natI_len] at h7
              omega
            have hr6 := hr5.short
            rw [natI_len] at hr6
            have HC5 := hideIt (hc4.bx.lay hr6)
            have z5 := hc4.bx.fz
            have R1 := hideIt (HNx.out (by simpa using hno2))
            have hyc' : (row.length : Int) + 1 ≤ yc := by omega
            clear hno2 hc4 hr5 hr6
            go_upto_region 31 with fail
            generalize w4.setCell _ _ = W5 at HC5 ⊢
            clear hv5 z5
            have r2 := HC5.out.bx.ub
            have r1 := HC5.out.bx.bt.bit k hkn
            have z1 := HC5.out.bx.bt.fz k
            have HC6 := hideIt ((HC5.out.mark hkn false).same (HOff.out trivial))
            go_wp2
            go_roundw
            case rel => exact ⟨k + 1, by omega, by go_num, R1.out, HC6.out⟩
            case measure => simp [intOf]; omega
          · have HS := hideIt (HS0.out c (by simpa using hsome))
            have H1 := hideIt hb4
            have H2 := hideIt hv4
            have H4 := hideIt hk4
            have H3 := hideIt hi4
            clear hsome hb4 hv4 hi4 hk4
            go_wp2
            go_ret
            exact Or.inr ⟨c, g4, o4, c4, rfl, HS.out, H1.out, H4.out, H2.out, H3.out⟩
        · have R1 := hideIt (HNx.out rfl)
          go_wp2
          go_roundw
          case rel => exact ⟨k + 1, by omega, by go_num, R1.out, HC.out⟩
          case measure => simp [intOf]; omega
      · have HN : Hid (tryL (fitB d) all (f + 1) row = none) := by
          show tryL (fitB d) all (f + 1) row = none
          rw [HTr.out]
          exact findL_no (f := fun k => if memB row k then none else tryL (fitB d) all f (row ++ [k])) fun j hj => HNo.out j hj (by omega)
        go_wp2
        go_ret
        exact Or.inl ⟨rfl, HN.out, HC.out⟩
end Go.Proofs.YtibdchahallbjabDoor

namespace Go.Proofs.YtibdchahallbjabDoor
open Go.RowKit

/-- What it tells. -/
def RsTold (l : List Stp) (w : World) (e : Ending) (w' : World) : Prop :=
  ∃ v b, e = .returned (.tuple #[v, .bool b]) ∧ Below w.heap.size w w' ∧
    ((6 < (cmL l).length ∧ b = true ∧ v = .slice none 0 0) ∨ ((cmL l).length ≤ 6 ∧ b = false ∧ seesL l = none ∧ v = .slice none 0 0) ∨
     ((cmL l).length ≤ 6 ∧ b = false ∧ ∃ c g off cap, seesL l = some c ∧ v = .slice (some ⟨g, off, none⟩) c.length cap ∧ HasI w' v (natI c)))
theorem HasI.back {w : World} {v u : Value} {xs : List Int} {p : Addr} (h : HasI w v xs) (hp : ∃ a n c, w.cell? p = some (.slice a n c)) : HasI (w.setCell p u) v xs := by
  obtain ⟨a, cap, rfl, hc, hr⟩ := h
  refine ⟨a, cap, rfl, hc, fun i hi => ?_⟩
  obtain ⟨g, off, e, h1⟩ := hr i hi
  refine ⟨g, off, e, (World.cell?_setCell_other _ _ _ _ fun e' => ?_).trans h1⟩
  obtain ⟨a2, n2, c2, h2⟩ := hp
  rw [e', h1] at h2
  cases h2
/-- While those that commit are listed: the order's box, the list's. -/
structure InA (w wr : World) (L : List Nat) : Prop where
  bel : Below w.heap.size w wr
  ob : wr.heap[w.heap.size]? = some (.cells #[.slice none 0 0] 29 (0, 0))
  ib : ∃ cur t, wr.heap[w.heap.size + 1]? = some (.cells cur t (0, 0))
  ic : ∃ v, wr.cell? ⟨w.heap.size + 1, 0, none⟩ = some v ∧ RowAt wr (w.heap.size + 2) v (natI L)
section
variable {w wr w' : World} {L : List Nat}
theorem InA.lt (h : InA w wr L) : w.heap.size + 1 < wr.heap.size := by
  obtain ⟨v, hv, _⟩ := h.ic
  exact World.block_lt_of_cell? wr _ hv
theorem InA.oc (h : InA w wr L) : wr.cell? ⟨w.heap.size, 0, none⟩ = some (.slice none 0 0) := cell_of_row _ _ _ _ 29 _ h.ob
theorem InA.ofz (h : InA w wr L) : wr.frozen? ⟨w.heap.size, 0, none⟩ = false := frozen_of_row wr _ 0 _ _ h.ob
theorem InA.ifz (h : InA w wr L) : wr.frozen? ⟨w.heap.size + 1, 0, none⟩ = false := by
  obtain ⟨cur, t, hc⟩ := h.ib
  exact frozen_of_row wr _ 0 cur t hc
theorem InA.below (h : InA w wr L) (hb : Below wr.heap.size wr w') : InA w w' L := by
  have hl := h.lt
  obtain ⟨cur, t, hc⟩ := h.ib
  obtain ⟨v, hv, hr⟩ := h.ic
  exact ⟨belJ h.bel hb, (hb.block _ (by omega)).trans h.ob, ⟨cur, t, (hb.block _ (by omega)).trans hc⟩, v, (hb.cell (p := ⟨w.heap.size + 1, 0, none⟩) hl).trans hv, hr.belowR hb⟩
end
theorem inA_new (w : World) : InA w ((w.alloc (.cells #[.slice none 0 0] 29)).alloc (.cells #[.slice none 0 0] 29)) [] := by
  obtain ⟨W1, h1⟩ : ∃ W1, W1 = w.alloc (.cells #[.slice none 0 0] 29) := ⟨_, rfl⟩
  have s1 : W1.heap.size = w.heap.size + 1 := by rw [h1]; simp
  have b1 : W1.heap[w.heap.size]? = some (.cells #[.slice none 0 0] 29 (0, 0)) := by rw [h1]; exact heap_alloc_new w _
  have hb : Below w.heap.size w W1 := by rw [h1]; exact belA (Below.refl _ _) _
  rw [← h1]
  have b2 := heap_alloc_new W1 (.cells #[.slice none 0 0] 29)
  rw [s1] at b2
  exact ⟨hb.alloc hb.size _, (Below.heap_alloc W1 _ w.heap.size (by omega)).trans b1, ⟨_, _, b2⟩, _, cell_of_row _ _ _ _ 29 _ b2, rowAt_nil _ _⟩
theorem dsA_new (w0 : World) (n : Nat) (f : Value) (all : List Nat) : DsA w0 n f ((((w0.alloc (.cells #[.slice none 0 0] 29)).alloc (.cells (madeCells #[.bool false] n) 4)).alloc (.cells #[.slice (some ⟨w0.heap.size + 1, 0, none⟩) n n] 59)).alloc (.cells #[f] 51)) (fun i => memB [] (allZ all i)) [] := by
  obtain ⟨W1, h1⟩ : ∃ W1, W1 = w0.alloc (.cells #[.slice none 0 0] 29) := ⟨_, rfl⟩
  obtain ⟨W2, h2⟩ : ∃ W2, W2 = W1.alloc (.cells (madeCells #[.bool false] n) 4) := ⟨_, rfl⟩
  obtain ⟨W3, h3⟩ : ∃ W3, W3 = W2.alloc (.cells #[.slice (some ⟨w0.heap.size + 1, 0, none⟩) n n] 59) := ⟨_, rfl⟩
  have s1 : W1.heap.size = w0.heap.size + 1 := by rw [h1]; simp
  have s2 : W2.heap.size = w0.heap.size + 2 := by rw [h2, World.size_alloc, s1]
  have s3 : W3.heap.size = w0.heap.size + 3 := by rw [h3, World.size_alloc, s2]
  have b1 : W1.heap[w0.heap.size]? = some (.cells #[.slice none 0 0] 29 (0, 0)) := by rw [h1]; exact heap_alloc_new w0 _
  have b2 : BitsAt W2 (w0.heap.size + 1) n (fun _ => false) := by rw [h2, ← s1]; exact bits_made W1 n
  have b3 : W3.heap[w0.heap.size + 2]? = some (.cells #[.slice (some ⟨w0.heap.size + 1, 0, none⟩) n n] 59 (0, 0)) := by rw [h3, ← s2]; exact heap_alloc_new W2 _
  have b4 := heap_alloc_new W3 (.cells #[f] 51)
  rw [s3] at b4
  have hb : Below w0.heap.size w0 (W3.alloc (.cells #[f] 51)) := by
    have := belA (belA (belA (belA (Below.refl w0.heap.size w0) (.cells #[.slice none 0 0] 29)) (.cells (madeCells #[.bool false] n) 4)) (.cells #[.slice (some ⟨w0.heap.size + 1, 0, none⟩) n n] 59)) (.cells #[f] 51)
    rw [← h1, ← h2, ← h3] at this
    exact this
  rw [← h1, ← h2, ← h3]
  have k1 : (W3.alloc (.cells #[f] 51)).heap[w0.heap.size]? = some (.cells #[.slice none 0 0] 29 (0, 0)) := by
    rw [Below.heap_alloc W3 _ w0.heap.size (by omega), h3, Below.heap_alloc W2 _ w0.heap.size (by omega), h2, Below.heap_alloc W1 _ w0.heap.size (by omega)]; exact b1
  have k2 : BitsAt (W3.alloc (.cells #[f] 51)) (w0.heap.size + 1) n (fun i => memB [] (allZ all i)) :=
    ((b2.block (w' := W3.alloc (.cells #[f] 51)) (by rw [Below.heap_alloc W3 _ (w0.heap.size + 1) (by omega), h3, Below.heap_alloc W2 _ (w0.heap.size + 1) (by omega)]))).same fun _ _ => rfl
  have k3 : (W3.alloc (.cells #[f] 51)).heap[w0.heap.size + 2]? = some (.cells #[.slice (some ⟨w0.heap.size + 1, 0, none⟩) n n] 59 (0, 0)) := by
    rw [Below.heap_alloc W3 _ (w0.heap.size + 2) (by omega)]; exact b3
  exact ⟨⟨hb, ⟨_, _, k1⟩, ⟨_, cell_of_row _ _ _ _ 29 _ k1⟩, k2, cell_of_row _ _ _ _ 59 _ k3, cell_of_row _ _ _ _ 51 _ b4⟩, _, cell_of_row _ _ _ _ 29 _ k1, rowAt_nil _ _⟩

set_option maxRecDepth 100000 in
set_option maxHeartbeats 8000000 in
theorem rSees_any (l : List Stp) (a : Option Addr) (cap : Nat) (w : World) (hn : l.length ≤ 60) (ok : OkS l) (hl : StpsQ w a l) :
    Calls Tryd.prog 15 #[.slice a l.length cap] w fun e w' => RsTold l w e w' := by
  have HL := hideIt hl
  have HOk := hideIt ok
  have HI0 := hideIt (inA_new w)
  have HCm : Hid (cmL l = (List.range 8).filter fun (t : Nat) => commB l (t : Int)) := rfl
  clear hl ok
  go_enter Tryd.func15, Tryd.ntmps15
  go_wp2
  generalize (w.alloc _).alloc _ = W at HI0 ⊢
  go_loopw [11] (fun i wr => ∃ k : Nat, k ≤ 8 ∧ i = .int .i64 k ∧ InA w wr ((List.range k).filter fun (t : Nat) => commB l (t : Int))) (fun i _ => 8 - (intOf i).toNat)
  case atStart => exact ⟨0, Nat.zero_le _, rfl, HI0.out⟩
  case round =>
    clear HI0
    obtain ⟨k, hk, rfl, hat⟩ := hrel
    have HAt := hideIt hat
    clear hat
    by_cases hk8 : k < 8
    · have hk8' : (k : Int) < 8 := by omega
      have HX := hideIt (range_filter (fun (t : Nat) => commB l (t : Int)) k)
      have HC := hideIt (commits_any l a cap (k : Int) wr (by omega) (HL.out.below HAt.out.bel))
      have hfl : (natI ((List.range k).filter fun (t : Nat) => commB l (t : Int))).length ≤ 8 := by
        rw [natI_len]
        exact Nat.le_trans (List.length_filter_le _ _) (by rw [List.length_range]; omega)
      generalize (List.range k).filter (fun (t : Nat) => commB l (t : Int)) = Dk at HAt HX hfl ⊢
      obtain ⟨fb, hfb⟩ : ∃ fb, commB l (k : Int) = fb := ⟨_, rfl⟩
      rw [hfb] at HC HX
      clear hfb
      cases fb
      · have R : Hid ((List.range (k + 1)).filter (fun (t : Nat) => commB l (t : Int)) = Dk) := by
          show _ = _
          rw [HX.out]; simp
        clear HX
        go_wp2_with fail
        refine HC.out.mono ?_
        rintro e w1 ⟨rfl, hb1⟩
        have HA1 := hideIt (HAt.out.below hb1)
        clear HC hb1 HAt
        go_wp2
        go_roundw
        case rel => exact ⟨k + 1, by omega, by go_num, by rw [R.out]; exact HA1.out⟩
        case measure => simp [intOf]; omega
      · have R : Hid ((List.range (k + 1)).filter (fun (t : Nat) => commB l (t : Int)) = Dk ++ [k]) := by
          show _ = _
          rw [HX.out]; simp
        clear HX
        go_wp2_with fail
        refine HC.out.mono ?_
        rintro e w1 ⟨rfl, hb1⟩
        have HA1 := hideIt (HAt.out.below hb1)
        clear HC hb1 HAt
        obtain ⟨v, hv, hrow⟩ := HA1.out.ic
        obtain ⟨na, nc, rfl⟩ := hrow.slice
        have hFs := HA1.out.lt
        have HRow2 : Hid (RowAt (w1.alloc (.cells #[.int .i64 (k : Int)] 3)) (w.heap.size + 2) (.slice na (natI Dk).length nc) (natI Dk)) := hrow.belowR (belA (Below.refl _ _) _)
        have hz1 := HA1.out.ifz
        have hne1 : ¬ w.heap.size + 1 = w1.heap.size := by omega
        clear hrow
        go_wp2_with (at_builtin; refine wpList_append_row rfl _ _ rfl (w.heap.size + 2) _ (natI Dk) rfl HRow2.out w1.heap.size 1 (k : Int) rfl ?c1 ?c2 ?c3 ?_)
        case c1 => simp
        case c2 => omega
        case c3 => simp; omega
        intro v' w3 ht
        obtain ⟨cur, tt, hib⟩ := HA1.out.ib
        have hb3 : Below w.heap.size w w3 := ((HA1.out.bel).alloc (HA1.out.bel.size) (.cells #[.int .i64 (k : Int)] 3)).grown ht.grown (by have := HA1.out.bel.size; simp; omega) (fun j hj => by have := (HRow2.out.lt j hj).1; omega)
        have hkb : ∀ j, j < w.heap.size + 2 → w3.heap[j]? = w1.heap[j]? := fun j hj => by
          rw [ht.grown.block j (by simp; omega) (fun e => by have := (HRow2.out.lt j e.symm).1; omega)]
          exact Below.heap_alloc _ _ _ (by omega)
        have b0 := (hkb w.heap.size (by omega)).trans HA1.out.ob
        have b1 := (hkb (w.heap.size + 1) (by omega)).trans hib
        have y2 := (World.cell?_of_block (a := ⟨w.heap.size + 1, 0, none⟩) (hkb (w.heap.size + 1) (by omega))).trans hv
        have y3 := frozen_of_row w3 _ 0 cur tt b1
        obtain ⟨cur', hc', _⟩ := heap_setCell b1 0 v'
        have HA3 : Hid (InA w (w3.setCell ⟨w.heap.size + 1, 0, none⟩ v') (Dk ++ [k])) :=
          ⟨hb3.setCell (p := ⟨w.heap.size + 1, 0, none⟩) (by show w.heap.size ≤ w.heap.size + 1; omega) _, (Below.heap_setCell w3 ⟨w.heap.size + 1, 0, none⟩ _ w.heap.size (by show w.heap.size ≠ w.heap.size + 1; omega)).trans b0, ⟨cur', tt, hc'⟩, v', World.cell?_setCell_same _ _ _ y2, by
            rw [natI_app]; exact ht.row.setOther (p := ⟨w.heap.size + 1, 0, none⟩) (by show w.heap.size + 1 < w.heap.size + 2; omega) _⟩
        obtain ⟨xa, xc, hv'⟩ := ht.row.slice
        rw [List.length_append, List.length_singleton] at hv'
        subst hv'
        clear ht hb3 hkb b0 b1 hc' hib HRow2 hv hz1 HA1
        go_wp2
        go_roundw
        case rel => exact ⟨k + 1, by omega, by go_num, by rw [R.out]; exact HA3.out⟩
        case measure => simp [intOf]; omega
    · obtain rfl : k = 8 := by omega
      rw [← HCm.out] at HAt
      have HWi := hideIt (within_done HOk.out)
      have HDk := hideIt (DOk.of HOk.out)
      have hc8 : (cmL l).length ≤ 8 := by
        rw [HCm.out]
        exact Nat.le_trans (List.length_filter_le _ _) (by simp)
      have HNd : Hid (cmL l).Nodup := by
        show (cmL l).Nodup
        rw [HCm.out]
        exact List.nodup_range.sublist List.filter_sublist
      have HSe : Hid (seesL l = tryL (fitB (doneL l)) (cmL l) (cmL l).length []) := rfl
      have HRd := hideIt (rDone_any l a cap wr (by omega) (HL.out.below HAt.out.bel))
      have hdl : (doneL l).length ≤ 60 := Nat.le_trans (List.length_filter_le _ _) hn
      have HTo : Hid (∀ e w', RsTold l w e w' = ∃ v b, e = .returned (.tuple #[v, .bool b]) ∧ Below w.heap.size w w' ∧
        ((6 < (cmL l).length ∧ b = true ∧ v = .slice none 0 0) ∨ ((cmL l).length ≤ 6 ∧ b = false ∧ seesL l = none ∧ v = .slice none 0 0) ∨
        ((cmL l).length ≤ 6 ∧ b = false ∧ ∃ c g off cap, seesL l = some c ∧ v = .slice (some ⟨g, off, none⟩) c.length cap ∧ HasI w' v (natI c)))) := fun e w' => rfl
      clear HCm HOk
      obtain ⟨all, hall⟩ : ∃ all, cmL l = all := ⟨_, rfl⟩
      rw [hall] at HAt HWi hc8 HNd HSe HTo
      clear hall
      generalize doneL l = d at HWi HDk HSe HRd hdl
      obtain ⟨v, hv, hrow⟩ := HAt.out.ic
      obtain ⟨na, nc, rfl⟩ := hrow.slice
      rw [natI_len] at hv hrow
      have HRow := hideIt hrow
      have y2 := HAt.out.oc
      have y3 := HAt.out.ofz
      clear hrow
      by_cases h6 : all.length ≤ 6
      · have h6' : (all.length : Int) ≤ 6 := by omega
        go_wp2_with fail
        refine HRd.out.mono ?_
        rintro e w4 ⟨v4, rfl, ho4, hb4⟩
        obtain ⟨a4, c4, rfl, hc4, hq4⟩ := stpsQ_own ho4
        have HA4 := hideIt (HAt.out.below hb4)
        have HQ4 := hideIt hq4
        clear HRd ho4 hb4 hc4 hq4 hv y2 y3
        have HA5 := hideIt (HA4.out.below (belA (Below.refl _ _) (.cells #[.slice a4 d.length c4] 23)))
        have HQ5 := hideIt (HQ4.out.below (belA (Below.refl _ _) (.cells #[.slice a4 d.length c4] 23)))
        have d5 : (w4.alloc (.cells #[.slice a4 d.length c4] 23)).cell? ⟨w4.heap.size, 0, none⟩ = some (.slice a4 d.length c4) := by simp
        go_upto_region 11 with fail
        generalize w4.alloc _ = W5 at HA5 HQ5 d5 ⊢
        generalize w4.heap.size = Dd at d5 ⊢
        clear HA4 HQ4 HAt
        have HSn := hideIt (seen_any d (fun n hn => ⟨(HDk.out n hn).1, (HDk.out n hn).2.1⟩) a4 c4 W5 (by omega) HQ5.out)
        go_wp2_with fail
        refine HSn.out.mono ?_
        rintro e w6 ⟨M, rfl, hM, hsn, hb6⟩
        have HA6 := hideIt (HA5.out.below hb6)
        have HQ6 := hideIt (HQ5.out.below hb6)
        have d6 := (hb6.cell (p := ⟨Dd, 0, none⟩) (World.block_lt_of_cell? W5 _ d5)).trans d5
        have HS6 := hideIt (hsn.low (Nat.zero_le _))
        clear HSn hM hsn hb6 d5 HA5 HQ5
        have hbA : Below w6.heap.size w6 (w6.alloc (.cells #[.map (some M)] 73)) := belA (Below.refl _ _) _
        have HA7 := hideIt (HA6.out.below hbA)
        have HQ7 := hideIt (HQ6.out.below hbA)
        have d7 := (hbA.cell (p := ⟨Dd, 0, none⟩) (World.block_lt_of_cell? w6 _ d6)).trans d6
        have HS7 := hideIt (HS6.out.below hbA (Nat.le_refl _))
        have q7 : (w6.alloc (.cells #[.map (some M)] 73)).cell? ⟨w6.heap.size, 0, none⟩ = some (.map (some M)) := by simp
        go_upto_region 12 with fail
        generalize w6.alloc _ = w0 at HA7 HQ7 d7 HS7 q7 ⊢
        generalize w6.heap.size = Qq at q7 ⊢
        clear HA6 HQ6 HS6 d6 hbA HRow
        obtain ⟨v, hv, hrow⟩ := HA7.out.ic
        obtain ⟨ia, ic, rfl⟩ := hrow.slice
        rw [natI_len] at hv hrow
        have HE : Hid (DsE w0 d all (w.heap.size + 1) Dd Qq w.heap.size ia a4 ic c4 M (d.length + 8)) := ⟨hv, hrow.hasI, d7, HQ7.out, q7, HS7.out, ⟨_, HA7.out.oc⟩, ⟨_, _, HA7.out.ob⟩⟩
        have hmk := made_bits (w0.alloc (.cells #[.slice none 0 0] 29)) all.length (by omega)
        have HD := hideIt (dsA_new w0 all.length (fn34 w0.heap.size (w.heap.size + 1) Dd Qq w.heap.size) all)
        have HCl := hideIt (fun W h => search_any d HDk.out hdl all hc8 HNd.out HWi.out w0 (w.heap.size + 1) Dd Qq w.heap.size ia a4 ic c4 M (d.length + 8) HE.out all.length [] W (by simp) List.nodup_nil (fun x hx => by cases hx) h)
        have hlt := HA7.out.lt
        have hne1 : ¬ w.heap.size + 1 = w0.heap.size := by omega
        have hne2 : ¬ w0.heap.size = w.heap.size + 1 := by omega
        have kk := HD.out.bx.tc
        clear hrow d7 q7
        unfold fn34 at HD kk HCl
        go_upto_region 16 with fail
        generalize (((w0.alloc _).alloc _).alloc _).alloc _ = W at HD kk ⊢
        have HC := hideIt (HCl.out W HD.out)
        clear HCl hmk
        go_wp2_with fail
        refine HC.out.mono ?_
        clear HC kk HD
        rintro e w2 (⟨rfl, hno, hc⟩ | ⟨c, g, off, cc, rfl, hsome, hb, ⟨cur, tt, hcur⟩, hvv, hi⟩)
        · have y2 := (hc.bx.bel.cell (p := ⟨w.heap.size, 0, none⟩) (by show w.heap.size < w0.heap.size; omega)).trans HA7.out.oc
          have y3 := (hc.bx.bel.frozen (p := ⟨w.heap.size, 0, none⟩) (by show w.heap.size < w0.heap.size; omega)).trans HA7.out.ofz
          have HB2 : Hid (Below w.heap.size w (w2.setCell ⟨w.heap.size, 0, none⟩ (.slice none 0 0))) := (belJ HA7.out.bel hc.bx.bel).setCell (p := ⟨w.heap.size, 0, none⟩) (Nat.le_refl _) _
          have HN := hideIt (HSe.out.trans hno)
          have HLd := hideIt (load29 (w := w2.setCell ⟨w.heap.size, 0, none⟩ (.slice none 0 0)) (World.cell?_setCell_same _ _ _ y2) ⟨_, _, _, rfl⟩)
          clear hc hno hv
          go_wp2
          refine bodyPost_ret (results_two rfl _ _ _ _ rfl HLd.out) rfl ?_
          rw [HTo.out]
          exact ⟨_, false, rfl, HB2.out, .inr (.inl ⟨h6, rfl, HN.out, rfl⟩)⟩
        · have y2 := hvv
          have y3 := frozen_of_row w2 _ 0 cur tt hcur
          have HB2 : Hid (Below w.heap.size w (w2.setCell ⟨w.heap.size, 0, none⟩ (.slice (some ⟨g, off, none⟩) c.length cc))) := (HA7.out.bel.trans hb).setCell (p := ⟨w.heap.size, 0, none⟩) (Nat.le_refl _) _
          have HN := hideIt (HSe.out.trans hsome)
          have HI2 : Hid (HasI (w2.setCell ⟨w.heap.size, 0, none⟩ (.slice (some ⟨g, off, none⟩) c.length cc)) (.slice (some ⟨g, off, none⟩) c.length cc) (natI c)) := hi.back ⟨_, _, _, hvv⟩
          have HLd := hideIt (load29 (w := w2.setCell ⟨w.heap.size, 0, none⟩ (.slice (some ⟨g, off, none⟩) c.length cc)) (World.cell?_setCell_same _ _ _ y2) ⟨_, _, _, rfl⟩)
          clear hb hsome hi hv hcur hvv
          go_wp2
          refine bodyPost_ret (results_two rfl _ _ _ _ rfl HLd.out) rfl ?_
          rw [HTo.out]
          exact ⟨_, false, rfl, HB2.out, .inr (.inr ⟨h6, rfl, c, g, off, cc, HN.out, rfl, HI2.out⟩)⟩
      · have h6' : ¬ (all.length : Int) ≤ 6 := by omega
        have HB2 : Hid (Below w.heap.size w (wr.setCell ⟨w.heap.size, 0, none⟩ (.slice none 0 0))) := HAt.out.bel.setCell (p := ⟨w.heap.size, 0, none⟩) (Nat.le_refl _) _
        have HLd := hideIt (load29 (w := wr.setCell ⟨w.heap.size, 0, none⟩ (.slice none 0 0)) (World.cell?_setCell_same _ _ _ y2) ⟨_, _, _, rfl⟩)
        go_wp2
        refine bodyPost_ret (results_two rfl _ _ _ _ rfl HLd.out) rfl ?_
        rw [HTo.out]
        exact ⟨_, true, rfl, HB2.out, .inl ⟨by omega, rfl, rfl⟩⟩
end Go.Proofs.YtibdchahallbjabDoor
