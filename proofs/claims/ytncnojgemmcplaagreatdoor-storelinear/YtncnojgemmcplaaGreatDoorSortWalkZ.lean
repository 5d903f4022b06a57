/-
  What the sort of the library does with ops, by their calls.
  The sort of a row of ops, as lists.
  The sort of nothing.
  What ops of a history does: those that are over, and those that have no end, sorted.
  What Ops of package event does: as the plain history.
-/
import Derived.Test.YtncnojgemmcplaaGreatDoorSortLay
import Derived.Test.YtncnojgemmcplaaGreatDoorMemZ
import Derived.Laws.OwnMore
import Derived.Test.YtncnojgemmcplaaGreatDoorFaultWZ
import Derived.Maps.RangeWalk
namespace Go.Proofs.YtncnojgemmcplaaGreatDoor
open Go.Shelf Go.RowKit Go.Lib Go.Sort

/-- How two ops are compared: by their calls. -/
def cmpO (x y : Opn) : Int := if x.c < y.c then -1 else if y.c < x.c then 1 else 0

theorem ltO (x y : Opn) : ltOf cmpO x y = decide (x.c < y.c) := by
  unfold ltOf cmpO
  by_cases h1 : x.c < y.c
  · simp [h1]
  · by_cases h2 : y.c < x.c <;> simp [h1, h2]

theorem swoO : SWO (ltOf cmpO) where
  irrefl x := by rw [ltO]; simp
  trans x y z h1 h2 := by rw [ltO] at *; simp at *; omega
  ntrans x y z h1 h2 := by rw [ltO] at *; simp at *; omega

set_option maxHeartbeats 400000 in
theorem compare_any (a b : Int) (w : World) : Calls Tryz.prog 80 #[.int .i64 a, .int .i64 b] w fun e w' => e = .returned (.int .i64 (if a < b then -1 else if b < a then 1 else 0)) ∧ w' = w := by
  by_cases h1 : a < b
  · rw [if_pos h1]
    go_enter Tryz.func80, Tryz.ntmps80
    go_wp2
    go_ret
    exact ⟨rfl, rfl⟩
  · by_cases h2 : b < a
    · rw [if_neg h1, if_pos h2]
      go_enter Tryz.func80, Tryz.ntmps80
      go_wp2
      go_ret
      exact ⟨rfl, rfl⟩
    · rw [if_neg h1, if_neg h2]
      go_enter Tryz.func80, Tryz.ntmps80
      go_wp2
      go_ret
      exact ⟨rfl, rfl⟩

set_option maxHeartbeats 400000 in
theorem closure14 (x y : Opn) (W : World) : Calls Tryz.prog 79 #[x.agg, y.agg] W fun e w' => e = .returned (.int .i64 (cmpO x y)) ∧ ∃ q os', w' = grow (W.drewN q) os' := by
  have hcon := hideIt (fun W' => compare_any x.c y.c W')
  unfold cmpO
  generalize (if x.c < y.c then (-1 : Int) else if y.c < x.c then 1 else 0) = r at hcon ⊢
  unfold Opn.agg
  go_enter Tryz.func79, Tryz.ntmps79
  go_wp2_with (go_at_call 80; refine (hcon.out _).mono ?_; rintro e w' ⟨rfl, rfl⟩)
  go_ret
  exact ⟨rfl, 0, _, by rw [alloc_eq_grow, alloc_eq_grow, grow_grow]; rfl⟩

theorem sort_any (blk off cap : Nat) (d : Array Opn) (w : World) [Inhabited Opn] (hH : HoldsK Opn.list 8 w blk off d) (hblk : blk < w.heap.size) (hsz : d.size < 4611686018427387904) :
    Calls Tryz.prog 78 #[.slice (some ⟨blk, off, none⟩) d.size cap, .func (.func 79) #[] #[]] w fun e w' => e = .returned (.tuple #[]) ∧ ∃ d' n os, PermIn 0 d.size d d' ∧ SortedIn (ltOf cmpO) 0 d.size d' ∧ w' = sortWorldK Opn.list 8 w blk off n d' os := by
  have eg : ∀ args w, (callFunc 79 args).run Tryz.prog w = .ok (.enter 79 args) w := enters_of Tryz.func79 (by kernel_rfl) rfl
  have hcon := AnyQ.slices_SortFunc sortOp 8 Tryz.isAgg154 Tryz.sizeOf154 Opn.list (fun _ => rfl) (fun x v hv => by simp [Opn.list] at hv; rcases hv with rfl | rfl | rfl | rfl | rfl | rfl | rfl | rfl <;> rfl) cmpO swoO 79 #[] blk off cap d w eg (fun _ _ _ _ x y => closure14 x y _) hH hblk hsz
  exact hcon

end Go.Proofs.YtncnojgemmcplaaGreatDoor

namespace Go.Proofs.YtncnojgemmcplaaGreatDoor
open Go.RowKit

theorem opList_len (x : Opn) : x.list.length = 8 := rfl

theorem opCells_get (L : List Opn) (i c : Nat) (hi : i < L.length) (hc : c < 8) : (opCells L)[i * 8 + c]? = L[i].list[c]? := by
  induction L generalizing i with
  | nil => simp at hi
  | cons x r ih =>
    show (x.list ++ opCells r)[i * 8 + c]? = _
    cases i with
    | zero =>
      rw [List.getElem?_append_left (by rw [opList_len]; omega)]
      simp
    | succ i =>
      rw [List.getElem?_append_right (by rw [opList_len]; omega), opList_len, show (i + 1) * 8 + c - 8 = i * 8 + c from by omega, ih i (by simpa using hi)]
      simp
theorem opCells_len (L : List Opn) : (opCells L).length = L.length * 8 := by
  induction L with
  | nil => rfl
  | cons x r ih => show (x.list ++ opCells r).length = _; rw [List.length_append, opList_len, ih]; simp; omega

theorem below_sort {w : World} {M g n : Nat} {d : Array Opn} {os : Array Obj} [Inhabited Opn] (hg : M ≤ g) (hM : M ≤ w.heap.size) : RowKit.Below M w (Proofs.sortWorldK Opn.list 8 w g 0 n d os) := by
  refine ⟨rfl, rfl, rfl, ?_, fun k hk => ?_⟩
  · simp [Proofs.sortWorldK, Sort.grow, Sort.putRowK, Sort.putRow, Sort.mapBlock, Sort.ahead]
  · simp only [Proofs.sortWorldK, Sort.grow, Sort.putRowK, Sort.putRow, Sort.mapBlock, Sort.ahead]
    rw [Array.getElem?_append_left (by simp; omega), Array.getElem?_modify, if_neg (by omega)]

theorem sort_list (g cap base M : Nat) (L : List Opn) (w : World) (hlen : L.length ≤ 1000) (ho : w.ownsRow base 154 8 (.slice (some ⟨g, 0, none⟩) L.length cap) L.length (opCells L)) (hg : M ≤ g) (hM : M ≤ w.heap.size) (hgs : g < w.heap.size) :
    Calls Tryz.prog 78 #[.slice (some ⟨g, 0, none⟩) L.length cap, .func (.func 79) #[] #[]] w fun e w' => e = .returned (.tuple #[]) ∧ ∃ L' : List Opn, L'.Perm L ∧ L'.length = L.length ∧ L'.Pairwise (fun x y => x.c ≤ y.c) ∧ OpsAt w' g 0 L' ∧ RowKit.Below M w w' := by
  haveI : Inhabited Opn := ⟨zeroOp⟩
  have hsize : L.toArray.size = L.length := by simp
  have hH : Sort.HoldsK Opn.list 8 w g 0 L.toArray := by
    intro j hj
    have hj' : j < L.length * 8 := by simpa [Sort.flatK] using hj
    have hd : j / 8 < L.length := by omega
    refine ⟨?_, by rw [Nat.zero_add]; exact ho.frozenAt j⟩
    rw [Nat.zero_add, ho.cellAt j hj', show j = j / 8 * 8 + j % 8 from by omega, opCells_get L (j / 8) (j % 8) hd (by omega)]
    have e1 : (j / 8 * 8 + j % 8) / 8 = j / 8 := by omega
    have e2 : (j / 8 * 8 + j % 8) % 8 = j % 8 := by omega
    have hlt : j % 8 < L[j / 8].list.length := by rw [opList_len]; omega
    rw [List.getElem?_eq_getElem hlt]
    have hr : j / 8 * 8 + j % 8 < L.length * 8 := by omega
    simp [Sort.flatK, e1, e2, hr, hd, hlt]
  have h := sort_any g 0 cap L.toArray w hH hgs (by rw [hsize]; omega)
  rw [hsize] at h
  refine h.mono ?_
  rintro e w' ⟨rfl, d', n, os, hp, hs, rfl⟩
  obtain ⟨p1, _, p3⟩ := hp
  have hdl : d'.size = L.length := by rw [p1, hsize]
  have hperm : d'.toList.Perm L := by
    have e1 : (d'.extract 0 L.length).toList = d'.toList := by rw [← hdl]; simp
    have e2 : (L.toArray.extract 0 L.length).toList = L := by simp
    rw [e1, e2] at p3
    exact p3
  refine ⟨rfl, d'.toList, hperm, hperm.length_eq, ?_, ?_, below_sort hg hM⟩
  · refine List.pairwise_iff_getElem.2 fun i j hi hj hij => ?_
    have := hs i j (Nat.zero_le _) hij (by simpa [hdl] using hj)
    rw [ltO] at this
    have hi' : i < d'.size := by simpa using hi
    have hj' : j < d'.size := by simpa using hj
    simp [hi', hj'] at this
    simpa using this
  · have hh := Proofs.holdsK_sortWorldK_c Opn.list 8 w g 0 L.toArray d' n os hH hgs p1
    intro i hi
    have hi' : i < d'.size := by simpa using hi
    have hc : ∀ c, c < 8 → (Proofs.sortWorldK Opn.list 8 w g 0 n d' os).cell? ⟨g, 0 + i * 8 + c, none⟩ = some (d'.toList[i].list)[c]! := fun c hc => by
      have := (hh.cell hi' hc).1
      simpa [hi'] using this
    exact ⟨hc 0 (by decide), hc 1 (by decide), hc 2 (by decide), hc 3 (by decide), hc 4 (by decide), hc 5 (by decide), hc 6 (by decide), hc 7 (by decide)⟩

end Go.Proofs.YtncnojgemmcplaaGreatDoor

namespace Go.Proofs.YtncnojgemmcplaaGreatDoor
open Go.RowKit

set_option maxHeartbeats 400000 in
theorem len_zero (w : World) : Calls Tryz.prog 109 #[.int .u64 0] w fun e w' => ∃ l : Int, e = .returned (.int .i64 l) ∧ w' = w := by
  go_enter Tryz.func109, Tryz.ntmps109
  go_wp2
  go_ret
  exact ⟨_, rfl, rfl⟩

set_option maxHeartbeats 400000 in
theorem insertion_none (p : Option Addr) (cap : Nat) (fv : Value) (w : World) : Calls Tryz.prog 124 #[.slice p 0 cap, .int .i64 0, .int .i64 0, fv] w fun e w' => e = .returned (.tuple #[]) ∧ w' = w := by
  go_enter Tryz.func124, Tryz.ntmps124
  go_wp2
  refine wp_loop_rounds 1 ?_
  rw [rounds_succ]
  go_wp2
  go_end0
  exact ⟨rfl, rfl⟩

set_option maxHeartbeats 400000 in
theorem pdq_none (p : Option Addr) (cap : Nat) (lim : Int) (fv : Value) (w : World) : Calls Tryz.prog 108 #[.slice p 0 cap, .int .i64 0, .int .i64 0, .int .i64 lim, fv] w fun e w' => e = .returned (.tuple #[]) ∧ w' = w := by
  go_enter Tryz.func108, Tryz.ntmps108
  go_wp2
  refine wp_loop_rounds 1 ?_
  rw [rounds_succ]
  go_wp2_with (go_at_call 124; refine (insertion_none _ _ _ _).mono ?_; rintro e w' ⟨rfl, rfl⟩)
  (try simp only [Exit.inBlock, Exit.then])
  refine bodyPost_ret (results_none rfl _ _ _) rfl ?_
  exact ⟨rfl, rfl⟩

set_option maxHeartbeats 400000 in
theorem sort_none (p : Option Addr) (cap : Nat) (fv : Value) (w : World) : Calls Tryz.prog 78 #[.slice p 0 cap, fv] w fun e w' => e = .returned (.tuple #[]) ∧ w' = w := by
  go_enter Tryz.func78, Tryz.ntmps78
  go_wp2_with (first | (go_at_call 109; refine (len_zero _).mono ?_; rintro e w' ⟨l, rfl, rfl⟩) | (go_at_call 108; refine (pdq_none _ _ _ _ _).mono ?_; rintro e w' ⟨rfl, rfl⟩))
  go_end0
  exact ⟨rfl, rfl⟩

end Go.Proofs.YtncnojgemmcplaaGreatDoor

namespace Go.Proofs.YtncnojgemmcplaaGreatDoor
open Go.RowKit

theorem row_ne_iter {H : Type} {w : World} {P : Program} {k : TypeId} {R : Value → Option (DataW H × List MemPlace)} {b r n cl base n2 : Nat} {D : DataW H} {left : Lit → Bool} {e : TypeId} {size : Nat} {v : Value} {xs : List Value}
    (h : w.ranges P k R b r n D left cl) (ho : w.ownsRow base e size v n2 xs) : v.ownBlock ≠ some r := by
  obtain ⟨_, _, _, _, _, _, _, _, _, hr, _⟩ := h
  rcases ho.2 with ⟨rfl, _⟩ | ⟨g, cap, cur, rfl, _, hh, _⟩
  · simp [Value.ownBlock]
  · intro k
    simp [Value.ownBlock] at k
    subst k
    rw [hr] at hh
    cases hh

/-- The keys that have come. -/
structure Col (D : DataW Unit) (left : Lit → Bool) (qs : List Int) : Prop where
  nodup : qs.Nodup
  mem : ∀ q, q ∈ qs ↔ (Maps.has D (.int .i64 q) = true ∧ left (.int .i64 q) = false)

theorem col_start (D : DataW Unit) : Col D (Maps.has D) [] := ⟨List.nodup_nil, fun q => by cases Maps.has D (.int .i64 q) <;> simp⟩
theorem col_step {D : DataW Unit} {left : Lit → Bool} {qs : List Int} {x : Int} (h : Col D left qs) (hl : left (.int .i64 x) = true) (hh : Maps.has D (.int .i64 x) = true) : Col D (fun z => left z && !z.sameKey (.int .i64 x)) (qs ++ [x]) := by
  have hx : x ∉ qs := fun k => by have := ((h.mem x).1 k).2; rw [hl] at this; cases this
  refine ⟨?_, fun q => ?_⟩
  · rw [List.nodup_append]
    refine ⟨h.nodup, by simp, ?_⟩
    intro a ha b hb
    simp at hb
    subst hb
    exact fun k => hx (k ▸ ha)
  · rw [List.mem_append, List.mem_singleton, h.mem q]
    by_cases e : q = x
    · subst e
      simp [hh, Lit.sameKey]
    · have : (Lit.int .i64 q).sameKey (.int .i64 x) = false := by simp [Lit.sameKey, e]
      simp [this, e]
theorem col_end {D : DataW Unit} {left : Lit → Bool} {qs : List Int} {busy : Int → Option Opn} (h : Col D left qs) (hl : ∀ kl, left kl = false) (hb : ∀ q : Int, Maps.has D (.int .i64 q) = (busy q).isSome) : ∀ q, q ∈ qs ↔ (busy q).isSome = true := fun q => by
  rw [h.mem q, hb q]; simp [hl]

theorem invKey (key : Value) (kl : Lit) (h : keyOf Tryz.prog 3 key = some kl) : ∃ x, key = Value.int .i64 x := by
  obtain ⟨x, rfl, _⟩ := Maps.keyOf_int_inv Tryz.underlying3 h
  exact ⟨x, rfl⟩

theorem invElem (v : Value) (y : DataW Unit × List MemPlace) (h : opElem v = some y) : ∃ c : Opn, v = (fun c : Opn => Value.agg #[.int .i64 c.p, .int .i64 c.k, .int .i64 c.d, .int .i64 c.a, .int .i64 c.b, .int .i64 c.r, .int .i64 c.c, .int .i64 c.e]) c := by
  obtain ⟨x, rfl, _⟩ := opElem_inv h
  exact ⟨x, rfl⟩

/-- What one step of the gathering does to what it knows. -/
theorem gather_step {s : Hs} {D : DataW Unit} {left : Lit → Bool} {qs : List Int} {x : Int} {c : Opn} {kl : Lit} {y : DataW Unit × List MemPlace} (hq : ∀ q : Int, Maps.has D (.int .i64 q) = (s.busy q).isSome ∧ ∀ o, s.busy q = some o → ∀ z, D.atKey (.int .i64 q) z = opD o)
    (hc : Col D left qs) (hkey : keyOf Tryz.prog 3 (Value.int .i64 x) = some kl) (hl : left kl = true) (hv : opElem (.agg #[.int .i64 c.p, .int .i64 c.k, .int .i64 c.d, .int .i64 c.a, .int .i64 c.b, .int .i64 c.r, .int .i64 c.c, .int .i64 c.e]) = some y) (hat : ∀ zd, D.atKey kl zd = y.1) :
    Col D (fun z => left z && !z.sameKey kl) (qs ++ [x]) ∧ opCells (s.done ++ (qs ++ [x]).filterMap s.busy) = opCells (s.done ++ qs.filterMap s.busy) ++ c.list := by
  obtain ⟨x', ex, rfl, _⟩ := Maps.keyOf_int_inv Tryz.underlying3 hkey
  cases ex
  have hy : y = (opD c, []) := (Option.some.inj hv).symm
  subst hy
  have hh : Maps.has D (.int .i64 x) = true := Maps.has_true_of_atKey hat
  have hb : s.busy x = some c := by
    have h1 := (hq x).1
    rw [hh] at h1
    obtain ⟨o, ho⟩ := Option.isSome_iff_exists.1 h1.symm
    have h2 := (hq x).2 o ho .nil
    rw [hat] at h2
    rw [ho, opD_inj h2]
  refine ⟨col_step hc hl hh, ?_⟩
  rw [List.filterMap_append, ← List.append_assoc]
  simp only [List.filterMap_cons, List.filterMap_nil, hb]
  exact opCells_snoc _ _

/-- The row at the end: nothing, or a row in a block. -/
theorem row_end {w : World} {base n : Nat} {v : Value} {L : List Opn} (h : w.ownsRow base 154 8 v n (opCells L)) : ∃ (a : Option Addr) (cap : Nat), v = .slice a L.length cap ∧ L.length ≤ cap ∧ n = L.length ∧ (L.length = 0 ∨ ∃ g, a = some ⟨g, 0, none⟩ ∧ base ≤ g ∧ g < w.heap.size ∧ w.ownsRow base 154 8 (.slice (some ⟨g, 0, none⟩) L.length cap) L.length (opCells L)) := by
  have hl := h.1
  rw [opCells_len] at hl
  have e : n = L.length := by omega
  subst e
  have h' := h
  rcases h.2 with ⟨rfl, h0⟩ | ⟨g, cap, cur, rfl, hg, hh, h1, _⟩
  · exact ⟨none, 0, by rw [h0], by omega, rfl, .inl h0⟩
  · exact ⟨some ⟨g, 0, none⟩, cap, rfl, h1, rfl, .inr ⟨g, rfl, hg, (Array.getElem?_eq_some_iff.1 hh).1, h'⟩⟩

theorem opsOf_of {s : Hs} {qs : List Int} {L : List Opn} (hn : qs.Nodup) (hm : ∀ q, q ∈ qs ↔ (s.busy q).isSome = true) (hp : L.Perm (s.done ++ qs.filterMap s.busy)) (hs : L.Pairwise (fun x y => x.c ≤ y.c)) : OpsOf s L := ⟨qs, hn, hm, hp, hs⟩

set_option maxHeartbeats 2000000 in
theorem ops_any (w : World) (B M base cnt : Nat) (s : Hs) (H : HistAt w B M base cnt s) (hcn : cnt ≤ 300) (hn : s.done.length ≤ 200) :
    Calls Tryz.prog 46 #[.pointer (some ⟨B, 0, none⟩)] w fun e w' => ∃ (a : Option Addr) (cap : Nat) (L : List Opn), e = .returned (.slice a L.length cap) ∧ OpsOf s L ∧ (L.length ≤ cap ∧ L.length ≤ 1000) ∧ (0 < L.length → ∃ g, a = some ⟨g, 0, none⟩ ∧ OpsAt w' g 0 L) ∧ Below M w w' := by
  have hB : B < w.heap.size := Nat.lt_of_lt_of_le H.lt2 H.lt3
  have hM : M < w.heap.size := Nat.lt_trans H.lt1 hB
  have hl1 := H.lt1
  have hl2 := H.lt2
  have hl3 := H.lt3
  have hc0 := H.mapc
  obtain ⟨v, hc9, _, hrow⟩ := H.row
  obtain ⟨D, hown, hq⟩ := H.map
  have HQ := hideIt hq
  have HR := hideIt hrow
  obtain ⟨i0, hi, hz0, hz1, hz2⟩ := info_parts info31
  clear H hq hrow
  go_enter Tryz.func46, Tryz.ntmps46
  go_wp2_with (first | (at_range; refine wpList_range_own _ rfl _ 112 rfl 3 154 keyedIEv Tryz.underlying112 opElem M cnt D rfl hown ?_; intro w0 hrg0 hg0 hs0) | go_in)
  go_frame
  go_loopw [3] (fun v wr => ∃ (left : Lit → Bool) (cl : Nat) (qs : List Int), wr.ranges Tryz.prog 3 opElem M w.heap.size cnt D left cl ∧ wr.ownsRow base 154 8 v (s.done.length + qs.length) (opCells (s.done ++ qs.filterMap s.busy)) ∧ Col D left qs ∧ qs.length + cl ≤ cnt ∧ Below M w wr)
    (fun _ wr => wr.rangeLeft M w.heap.size)
  case atStart =>
    refine ⟨_, _, [], hrg0, ?_, col_start D, by simpa using hown.size_le, (Below.refl M w).grown hg0 (by omega) (fun k hk => by cases hk)⟩
    simpa using HR.out.kept hg0 (by by_cases e : v.ownBlock = none <;> simp [e])
  case round =>
    obtain ⟨left, cl, qs, hrg, hro, hcol, hcnt, hnx⟩ := hrel
    have hir := row_ne_iter hrg hro
    have hsz := hnx.size
    have hrl := hrg.lt
    go_wp2_with (first | (at_next; refine wpList_next_ranges _ rfl _ rfl 3 keyedIEv opElem (Value.int .i64) (fun c : Opn => Value.agg #[.int .i64 c.p, .int .i64 c.k, .int .i64 c.d, .int .i64 c.a, .int .i64 c.b, .int .i64 c.r, .int .i64 c.c, .int .i64 c.e]) invKey invElem M w.heap.size cnt D left cl rfl hrg ?_ ?_) | go_in)
    · intro hz hleft
      obtain ⟨a, cap, hvv, hcap, hlen, hcase⟩ := row_end hro
      have hmem := col_end hcol hleft (fun q => (HQ.out q).1)
      have HO := hideIt (fun L => opsOf_of (s := s) (L := L) hcol.nodup hmem)
      have hlen300 : (s.done ++ qs.filterMap s.busy).length ≤ 1000 := by omega
      generalize (s.done ++ qs.filterMap s.busy) = L0 at hvv hcap hcase HO hlen300
      rw [hvv]
      clear hvv hro hrg hcol hmem hir hleft hlen
      rcases hcase with h0 | ⟨g, rfl, hg, hgs, hro⟩
      · have hL : L0 = [] := List.length_eq_zero_iff.1 h0
        subst hL
        go_wp2_with fail
        refine (sort_none _ _ _ _).mono ?_
        rintro e w2 ⟨rfl, rfl⟩
        go_wp2
        go_ret
        exact ⟨a, cap, [], rfl, HO.out [] (List.Perm.refl _) List.Pairwise.nil, ⟨Nat.zero_le _, Nat.zero_le _⟩, fun h => absurd h (by simp), hnx⟩
      · have HRO := hideIt hro
        clear hro
        go_wp2_with fail
        refine (sort_list g cap base M L0 _ hlen300 HRO.out (by omega) (by omega) hgs).mono ?_
        rintro e w2 ⟨rfl, L', hp, hl, hs, hat, hb2⟩
        have R1 := hideIt (HO.out L' hp hs)
        have R2 := hideIt hat
        have R3 := hideIt (hnx.trans hb2)
        have R4 : Hid (L'.length = L0.length) := hl
        clear hp hs hat hb2 hl
        go_wp2
        go_ret
        exact ⟨some ⟨g, 0, none⟩, cap, L', by rw [R4.out]; rfl, R1.out, by rw [R4.out]; exact ⟨hcap, hlen300⟩, fun _ => ⟨g, rfl, R2.out⟩, R3.out⟩
    · intro x c kl y1 y2 w1 cnt1 hkey hlx hv hat hrg1 hlt hg1 hs1 hen
      obtain ⟨hcol', hcells⟩ := gather_step (y := (y1, y2)) HQ.out hcol hkey hlx hv hat
      have hro1 := hro.kept hg1 (.inr hir)
      have HM := hideIt (show w1.rangeLeft M w.heap.size < wr.rangeLeft M w.heap.size by rw [hrg1.left_eq, hrg.left_eq]; exact hlt)
      have hqs : qs.length + cl ≤ 300 := by omega
      have HCE := hideIt hcells
      have HCO := hideIt hcol'
      have HS1 : Hid (w1.heap.size = wr.heap.size) := hs1
      have hsz1 : w.heap.size ≤ w1.heap.size := by omega
      clear hkey hlx hv hat hcells hcol' hs1
      go_wp2_with (at_builtin; refine wpList_append_own _ rfl _ _ 66 rfl base 154 i0 _ 8 64 Tryz.underlying66 hi hz0 hz1 hz2 rfl (by decide) _ _ _ rfl ((hro1.alloc _).alloc _) ⟨w1.heap.size + 1, 0, none⟩ 1 1 c.list rfl rfl ?c1 ?c2 ?c3 ?c4 ?c5 ?_)
      case c1 =>
        intro j u hj
        match j, hj with
        | 0, hj => simp [Opn.list] at hj; subst hj; simp [Addr.add]
        | 1, hj => simp [Opn.list] at hj; subst hj; simp [Addr.add]
        | 2, hj => simp [Opn.list] at hj; subst hj; simp [Addr.add]
        | 3, hj => simp [Opn.list] at hj; subst hj; simp [Addr.add]
        | 4, hj => simp [Opn.list] at hj; subst hj; simp [Addr.add]
        | 5, hj => simp [Opn.list] at hj; subst hj; simp [Addr.add]
        | 6, hj => simp [Opn.list] at hj; subst hj; simp [Addr.add]
        | 7, hj => simp [Opn.list] at hj; subst hj; simp [Addr.add]
        | n + 8, hj => simp [Opn.list] at hj
      case c2 => intro u hu; simp [Opn.list] at hu; rcases hu with rfl | rfl | rfl | rfl | rfl | rfl | rfl | rfl <;> rfl
      case c3 => unfold maxLen; omega
      case c4 => omega
      case c5 => simp; omega
      · intro v' w2 hown2 hgrow _
        have hrow2 : ∀ k, Value.ownBlock _ = some k → base ≤ k := fun k hk => (hro1.lt k hk).1
        have hrg2 := ((hrg1.alloc _).alloc _).kept hgrow (fun k => by have := hrow2 M k.symm; omega) (Ne.symm hir)
        have R1 : Hid (w2.ownsRow base 154 8 v' (s.done.length + (qs ++ [x]).length) (opCells (s.done ++ (qs ++ [x]).filterMap s.busy))) := by
          show w2.ownsRow base 154 8 v' (s.done.length + (qs ++ [x]).length) (opCells (s.done ++ (qs ++ [x]).filterMap s.busy))
          rw [HCE.out, List.length_append]
          exact hown2
        have R2 : Hid (Below M w w2) := ((((hnx.grown hg1 (by omega) (fun k hk => by have := Option.some.inj hk; omega)).alloc (by omega) _).alloc (by simp; omega) _).grown hgrow (by simp; omega) (fun k hk => by have := hrow2 k hk; omega))
        have R3 := hideIt hrg2
        have R4 : Hid (w2.rangeLeft M w.heap.size < wr.rangeLeft M w.heap.size) := by
          show w2.rangeLeft M w.heap.size < wr.rangeLeft M w.heap.size
          rw [hrg2.left_eq, hrg.left_eq]; exact hlt
        clear hown2 hgrow hrg2 hro1 hro hrg hrg1 hg1
        go_wp2
        go_roundw
        case rel => exact ⟨_, _, qs ++ [x], R3.out, R1.out, HCO.out, by simp; omega, R2.out⟩
        case measure => exact R4.out
end Go.Proofs.YtncnojgemmcplaaGreatDoor

namespace Go.Proofs.YtncnojgemmcplaaGreatDoor
open Go.RowKit


/-- What Ops tells of events. -/
def OpsTold (l : List Ev) (e : Ending) (w' : World) : Prop :=
  (120 < l.length ∧ e = .returned (.tuple #[.slice none 0 0, .iface 38 (.int .i64 4)])) ∨
  (∃ (k g : Nat) (n : Int) (h : k < l.length), FineH l k ∧ seeN l[k] (hist l k) = n ∧ n ≠ 0 ∧ e = .returned (.tuple #[.slice none 0 0, .iface 117 (.pointer (some ⟨g, 0, none⟩))]) ∧ w'.cell? ⟨g, 0, none⟩ = some (.int .i64 n) ∧ w'.cell? ⟨g, 1, none⟩ = some (.int .i64 k)) ∨
  (l.length ≤ 120 ∧ FineH l l.length ∧ ∃ (a : Option Addr) (cap : Nat) (L : List Opn), e = .returned (.tuple #[.slice a L.length cap, .nilIface]) ∧ OpsOf (hist l l.length) L ∧ (L.length ≤ cap ∧ L.length ≤ 1000) ∧ (0 < L.length → ∃ g, a = some ⟨g, 0, none⟩ ∧ OpsAt w' g 0 L))

theorem seeS_len (n : Int) (e : Ev) (s : Hs) : (seeS n e s).done.length ≤ s.done.length + 1 := by
  unfold seeS
  split
  · simp
  · split
    · omega
    · split
      · simp
      · split <;> simp
theorem hist_len (l : List Ev) (n : Nat) : (hist l n).done.length ≤ n := by
  induction n with
  | zero => simp [hist, Hs.new]
  | succ n ih =>
    show (match l[n]? with | some e => seeS n e (hist l n) | none => hist l n).done.length ≤ n + 1
    cases l[n]? with
    | none => show (hist l n).done.length ≤ n + 1; omega
    | some e => have := seeS_len n e (hist l n); show (seeS n e (hist l n)).done.length ≤ n + 1; omega

theorem fineH_succ {l : List Ev} {n : Nat} (h : FineH l n) (hn : n < l.length) (hz : seeN l[n] (hist l n) = 0) : FineH l (n + 1) := fun i hi hin => by
  by_cases e : i = n
  · subst e; exact hz
  · exact h i hi (by omega)

/-- The history at first. -/
theorem hist_start (w : World) (l : List Ev) : HistAt ((w.alloc (.map #[] 0)).alloc (.cells #[.map (some w.heap.size), .bool false, .bool false, .bool false, .bool false, .bool false, .bool false, .bool false, .bool false, .slice none 0 0] 115)) (w.heap.size + 1) w.heap.size (w.heap.size + 2) 0 (hist l 0) := by
  have e1 : (w.alloc (.map #[] 0)).heap.size = w.heap.size + 1 := by simp
  refine ⟨?_, fun p p0 p8 => ?_, ⟨.slice none 0 0, ?_, ?_, World.ownsRow_nil _ _ _ _⟩, (mapIs_made w).alloc _, by omega, by omega, by simp⟩
  · rw [← e1]; simp
  · rw [← e1]
    have : p = 0 ∨ p = 1 ∨ p = 2 ∨ p = 3 ∨ p = 4 ∨ p = 5 ∨ p = 6 ∨ p = 7 := by omega
    rcases this with rfl | rfl | rfl | rfl | rfl | rfl | rfl | rfl <;> simp [hist, Hs.new]
  · rw [← e1]; simp
  · rw [← e1]; simp


set_option maxHeartbeats 1000000 in
theorem evOps_some (l : List Ev) (b off cap : Nat) (w : World) (hlen : l.length ≤ 120) (hl : EvsAt w b off l) (hb : b < w.heap.size) :
    Calls Tryz.prog 21 #[.slice (some ⟨b, off, none⟩) l.length cap] w fun e w' => OpsTold l e w' ∧ Below w.heap.size w w' := by
  have HL := hideIt hl
  clear hl
  have hmm := @run_makeMap Tryz.prog
  have h120 : decide (120 < (l.length : Int)) = false := by simp; omega
  have HS := hideIt (hist_start w l)
  go_enter Tryz.func21, Tryz.ntmps21
  go_wp2
  go_loopw [16] (fun i wr => ∃ k : Nat, k ≤ l.length ∧ i = .int .i64 k ∧ FineH l k ∧ HistAt wr (w.heap.size + 1) w.heap.size (w.heap.size + 2) k (hist l k) ∧ Below w.heap.size w wr) (fun i _ => l.length - (intOf i).toNat)
  case atStart => exact ⟨0, Nat.zero_le _, rfl, fun i _ h => absurd h (Nat.not_lt_zero _), HS.out, belA (belA (Below.refl _ _) _) _⟩
  case round =>
    obtain ⟨k, hk, rfl, hf, hh, hnx⟩ := hrel
    have HF := hideIt hf
    have HH := hideIt hh
    have hsz := hnx.size
    clear hf hh
    by_cases hkl : k < l.length
    · obtain ⟨e, HE⟩ : ∃ e, Hid (l[k] = e) := ⟨_, hideIt rfl⟩
      have hc := (HL.out k hkl).below hb hnx
      rw [HE.out] at hc
      obtain ⟨c0, c1, c2, c3, c4, c5, c6⟩ := hc
      have hdl := hist_len l k
      have HC := hideIt (see_any e (k : Int) _ (w.heap.size + 1) w.heap.size (w.heap.size + 2) k (hist l k) (HH.out.alloc e.obj) (by omega) (by omega))
      obtain ⟨n, HN⟩ : ∃ n, Hid (seeN e (hist l k) = n) := ⟨_, hideIt rfl⟩
      rw [HN.out] at HC
      clear hdl
      unfold Ev.agg Ev.obj at HC
      by_cases hz : n = 0
      · have hz' : (n != 0) = false := by simp [hz]
        have R1 : Hid (FineH l (k + 1)) := fineH_succ HF.out hkl (by rw [HE.out, HN.out]; exact hz)
        have HZ : Hid (n = 0) := hz
        clear hz
        go_wp2_with fail
        refine HC.out.mono ?_
        rintro ev w1 ⟨rfl, h1, h2⟩
        have R2 : Hid (HistAt w1 (w.heap.size + 1) w.heap.size (w.heap.size + 2) (k + 1) (hist l (k + 1))) := by
          have := h1 HZ.out
          rw [← HE.out, ← hist_succ l k hkl] at this
          exact this
        have R3 := hideIt ((hnx.alloc hsz _).trans h2)
        clear h1 h2
        go_wp2
        go_roundw
        case rel => exact ⟨k + 1, by omega, by go_num, R1.out, R2.out, R3.out⟩
        case measure => simp [intOf]; omega
      · have hz' : (n != 0) = true := by simp [hz]
        have R1 : Hid (FineH l k ∧ seeN l[k] (hist l k) = n ∧ n ≠ 0) := ⟨HF.out, by rw [HE.out]; exact HN.out, hz⟩
        clear hz
        go_wp2_with fail
        refine HC.out.mono ?_
        rintro ev w1 ⟨rfl, h1, h2⟩
        have R3 := hideIt ((hnx.alloc hsz _).trans h2)
        have hsz1 : w.heap.size ≤ w1.heap.size := R3.out.size
        clear h1 h2
        go_wp2
        go_ret2
        exact ⟨.inr (.inl ⟨k, w1.heap.size, n, hkl, R1.out.1, R1.out.2.1, R1.out.2.2, rfl, by simp, by simp⟩), R3.out.alloc hsz1 _⟩
    · have hdl := hist_len l k
      have HC := hideIt (ops_any wr (w.heap.size + 1) w.heap.size (w.heap.size + 2) k (hist l k) HH.out (by omega) (by omega))
      clear hdl
      have HK : Hid (k = l.length) := show k = l.length by omega
      go_wp2_with fail
      refine HC.out.mono ?_
      rintro ev w1 ⟨a, cp, L, rfl, h1, h2, h3, h4⟩
      have R1 : Hid (FineH l l.length ∧ OpsOf (hist l l.length) L) := ⟨by rw [← HK.out]; exact HF.out, by rw [← HK.out]; exact h1⟩
      have R2 := hideIt h3
      have R3 := hideIt (hnx.trans h4)
      clear h1 h3 h4
      go_wp2
      go_ret2
      exact ⟨.inr (.inr ⟨hlen, R1.out.1, a, cp, L, rfl, R1.out.2, h2, R2.out⟩), R3.out⟩

set_option maxHeartbeats 1000000 in
theorem evOps_none (a : Option Addr) (cap : Nat) (w : World) :
    Calls Tryz.prog 21 #[.slice a 0 cap] w fun e w' => OpsTold [] e w' ∧ Below w.heap.size w w' := by
  have hmm := @run_makeMap Tryz.prog
  have HS := hideIt (hist_start w [])
  go_enter Tryz.func21, Tryz.ntmps21
  go_wp2
  refine wp_loop_rounds 1 ?_
  rw [rounds_succ]
  go_wp2_with fail
  refine (ops_any _ (w.heap.size + 1) w.heap.size (w.heap.size + 2) 0 (hist [] 0) HS.out (by omega) (by simp [hist, Hs.new])).mono ?_
  rintro ev w1 ⟨a, cp, L, rfl, h1, h2, h3, h4⟩
  have R1 := hideIt h1
  have R2 := hideIt h3
  have R3 : Hid (Below w.heap.size w w1) := (belA (belA (Below.refl _ _) _) _).trans h4
  clear h1 h3 h4
  go_wp2
  go_ret2
  exact ⟨.inr (.inr ⟨by simp, fun i h => absurd h (Nat.not_lt_zero _), a, cp, L, rfl, R1.out, h2, R2.out⟩), R3.out⟩

end Go.Proofs.YtncnojgemmcplaaGreatDoor
