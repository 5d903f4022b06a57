/-
  What the sort of the library does with zones, by where they begin.
-/
import Derived.Test.YtelndpbkheoeaaaDoorSortLay
import Derived.Test.YtelndpbkheoeaaaDoorSpWZ
import Derived.Laws.OwnMore
namespace Go.Proofs.YtelndpbkheoeaaaDoor
open Go.Shelf Go.RowKit Go.Lib Go.Sort

def Zon.list (z : Zon) : List Value := [.int .i64 z.v, .int .i64 z.lo, .int .i64 z.hi, .bool z.fw]
def Zon.agg (z : Zon) : Value := .agg #[.int .i64 z.v, .int .i64 z.lo, .int .i64 z.hi, .bool z.fw]
def zonCells (L : List Zon) : List Value := L.flatMap Zon.list
def ZonAt (w : World) (b off : Nat) (z : Zon) : Prop :=
  w.cell? ⟨b, off, none⟩ = some (.int .i64 z.v) ∧ w.cell? ⟨b, off + 1, none⟩ = some (.int .i64 z.lo) ∧ w.cell? ⟨b, off + 2, none⟩ = some (.int .i64 z.hi) ∧ w.cell? ⟨b, off + 3, none⟩ = some (.bool z.fw)
def ZonsAt (w : World) (b off : Nat) (L : List Zon) : Prop := ∀ i, (h : i < L.length) → ZonAt w b (off + i * 4) L[i]
theorem ZonAt.below {w w' : World} {B b off : Nat} {z : Zon} (h : ZonAt w b off z) (hb : b < B) (hn : Below B w w') : ZonAt w' b off z := by
  obtain ⟨h0, h1, h2, h3⟩ := h
  exact ⟨(hn.cell (p := ⟨b, off, none⟩) hb).trans h0, (hn.cell (p := ⟨b, off + 1, none⟩) hb).trans h1, (hn.cell (p := ⟨b, off + 2, none⟩) hb).trans h2, (hn.cell (p := ⟨b, off + 3, none⟩) hb).trans h3⟩
theorem ZonsAt.below {w w' : World} {B b off : Nat} {L : List Zon} (h : ZonsAt w b off L) (hb : b < B) (hn : Below B w w') : ZonsAt w' b off L := fun i hi => (h i hi).below hb hn

/-- How two zones are compared. -/
def cmpZ (x y : Zon) : Int := if x.lo < y.lo then -1 else if y.lo < x.lo then 1 else 0
theorem ltZ (x y : Zon) : ltOf cmpZ x y = decide (x.lo < y.lo) := by
  unfold ltOf cmpZ
  by_cases h1 : x.lo < y.lo
  · simp [h1]
  · by_cases h2 : y.lo < x.lo <;> simp [h1, h2]
theorem swoZ : SWO (ltOf cmpZ) where
  irrefl x := by rw [ltZ]; simp
  trans x y z h1 h2 := by rw [ltZ] at *; simp at *; omega
  ntrans x y z h1 h2 := by rw [ltZ] at *; simp at *; omega

set_option maxHeartbeats 400000 in
theorem compare_any (a b : Int) (w : World) : Calls Tryd.prog 38 #[.int .i64 a, .int .i64 b] w fun e w' => e = .returned (.int .i64 (if a < b then -1 else if b < a then 1 else 0)) ∧ w' = w := by
  by_cases h1 : a < b
  · rw [if_pos h1]
    go_enter Tryd.func38, Tryd.ntmps38
    go_wp2
    go_ret
    exact ⟨rfl, rfl⟩
  · by_cases h2 : b < a
    · rw [if_neg h1, if_pos h2]
      go_enter Tryd.func38, Tryd.ntmps38
      go_wp2
      go_ret
      exact ⟨rfl, rfl⟩
    · rw [if_neg h1, if_neg h2]
      go_enter Tryd.func38, Tryd.ntmps38
      go_wp2
      go_ret
      exact ⟨rfl, rfl⟩

set_option maxHeartbeats 400000 in
theorem closureZ (x y : Zon) (W : World) : Calls Tryd.prog 37 #[x.agg, y.agg] W fun e w' => e = .returned (.int .i64 (cmpZ x y)) ∧ ∃ q os', w' = grow (W.drewN q) os' := by
  have hcon := hideIt (fun W' => compare_any x.lo y.lo W')
  unfold cmpZ
  generalize (if x.lo < y.lo then (-1 : Int) else if y.lo < x.lo then 1 else 0) = r at hcon ⊢
  unfold Zon.agg
  go_enter Tryd.func37, Tryd.ntmps37
  go_wp2_with (go_at_call 38; refine (hcon.out _).mono ?_; rintro e w' ⟨rfl, rfl⟩)
  go_ret
  exact ⟨rfl, 0, _, by rw [alloc_eq_grow, alloc_eq_grow, grow_grow]; rfl⟩

theorem sortZ_any (blk off cap : Nat) (d : Array Zon) (w : World) [Inhabited Zon] (hH : HoldsK Zon.list 4 w blk off d) (hblk : blk < w.heap.size) (hsz : d.size < 4611686018427387904) :
    Calls Tryd.prog 36 #[.slice (some ⟨blk, off, none⟩) d.size cap, .func (.func 37) #[] #[]] w fun e w' => e = .returned (.tuple #[]) ∧ ∃ d' n os, PermIn 0 d.size d d' ∧ SortedIn (ltOf cmpZ) 0 d.size d' ∧ w' = sortWorldK Zon.list 4 w blk off n d' os := by
  have eg : ∀ args w, (callFunc 37 args).run Tryd.prog w = .ok (.enter 37 args) w := enters_of Tryd.func37 (by kernel_rfl) rfl
  have hcon := AnyQ.slices_SortFunc sortZo 4 Tryd.isAgg36 Tryd.sizeOf36 Zon.list (fun _ => rfl) (fun x v hv => by simp [Zon.list] at hv; rcases hv with rfl | rfl | rfl | rfl <;> rfl) cmpZ swoZ 37 #[] blk off cap d w eg (fun _ _ _ _ x y => closureZ x y _) hH hblk hsz
  exact hcon

theorem zonList_len (x : Zon) : x.list.length = 4 := rfl
theorem zonCells_get (L : List Zon) (i c : Nat) (hi : i < L.length) (hc : c < 4) : (zonCells L)[i * 4 + c]? = L[i].list[c]? := by
  induction L generalizing i with
  | nil => simp at hi
  | cons x r ih =>
    show (x.list ++ zonCells r)[i * 4 + c]? = _
    cases i with
    | zero =>
      rw [List.getElem?_append_left (by rw [zonList_len]; omega)]
      simp
    | succ i =>
      rw [List.getElem?_append_right (by rw [zonList_len]; omega), zonList_len, show (i + 1) * 4 + c - 4 = i * 4 + c from by omega, ih i (by simpa using hi)]
      simp
theorem zonCells_len (L : List Zon) : (zonCells L).length = L.length * 4 := by
  induction L with
  | nil => rfl
  | cons x r ih => show (x.list ++ zonCells r).length = _; rw [List.length_append, zonList_len, ih]; simp; omega
theorem zonCells_snoc (L : List Zon) (x : Zon) : zonCells (L ++ [x]) = zonCells L ++ x.list := by simp [zonCells]

theorem below_sortZ {w : World} {M g n : Nat} {d : Array Zon} {os : Array Obj} [Inhabited Zon] (hg : M ≤ g) (hM : M ≤ w.heap.size) : RowKit.Below M w (Proofs.sortWorldK Zon.list 4 w g 0 n d os) := by
  refine ⟨rfl, rfl, rfl, ?_, fun k hk => ?_⟩
  · simp [Proofs.sortWorldK, Sort.grow, Sort.putRowK, Sort.putRow, Sort.mapBlock, Sort.ahead]
  · simp only [Proofs.sortWorldK, Sort.grow, Sort.putRowK, Sort.putRow, Sort.mapBlock, Sort.ahead]
    rw [Array.getElem?_append_left (by simp; omega), Array.getElem?_modify, if_neg (by omega)]

theorem sortZ_list (g cap base M : Nat) (L : List Zon) (w : World) (hlen : L.length ≤ 1000) (ho : w.ownsRow base 36 4 (.slice (some ⟨g, 0, none⟩) L.length cap) L.length (zonCells L)) (hg : M ≤ g) (hM : M ≤ w.heap.size) (hgs : g < w.heap.size) :
    Calls Tryd.prog 36 #[.slice (some ⟨g, 0, none⟩) L.length cap, .func (.func 37) #[] #[]] w fun e w' => e = .returned (.tuple #[]) ∧ ∃ L' : List Zon, L'.Perm L ∧ L'.length = L.length ∧ L'.Pairwise (fun x y => x.lo ≤ y.lo) ∧ ZonsAt w' g 0 L' ∧ w.heap.size ≤ w'.heap.size ∧ RowKit.Below M w w' := by
  haveI : Inhabited Zon := ⟨⟨0, 0, 0, false⟩⟩
  have hsize : L.toArray.size = L.length := by simp
  have hH : Sort.HoldsK Zon.list 4 w g 0 L.toArray := by
    intro j hj
    have hj' : j < L.length * 4 := by simpa [Sort.flatK] using hj
    have hd : j / 4 < L.length := by omega
    refine ⟨?_, by rw [Nat.zero_add]; exact ho.frozenAt j⟩
    rw [Nat.zero_add, ho.cellAt j hj', show j = j / 4 * 4 + j % 4 from by omega, zonCells_get L (j / 4) (j % 4) hd (by omega)]
    have e1 : (j / 4 * 4 + j % 4) / 4 = j / 4 := by omega
    have e2 : (j / 4 * 4 + j % 4) % 4 = j % 4 := by omega
    have hlt : j % 4 < L[j / 4].list.length := by rw [zonList_len]; omega
    rw [List.getElem?_eq_getElem hlt]
    have hr : j / 4 * 4 + j % 4 < L.length * 4 := by omega
    simp [Sort.flatK, e1, e2, hr, hd, hlt]
  have h := sortZ_any g 0 cap L.toArray w hH hgs (by rw [hsize]; omega)
  rw [hsize] at h
  refine h.mono ?_
  rintro e w' ⟨rfl, d', n, os, hp, hs, rfl⟩
  obtain ⟨p1, _, p3⟩ := hp
  have hdl : d'.size = L.length := by rw [p1, hsize]
  have hperm : d'.toList.Perm L := by
    have e1 : (d'.extract 0 L.length).toList = d'.toList := by rw [← hdl]; simp
    have e2 : (L.toArray.extract 0 L.length).toList = L := by simp
    rw [e1, e2] at p3
    exact p3
  refine ⟨rfl, d'.toList, hperm, hperm.length_eq, ?_, ?_, by simp [Proofs.sortWorldK, Sort.grow, Sort.putRowK, Sort.putRow, Sort.mapBlock, Sort.ahead], below_sortZ hg hM⟩
  · refine List.pairwise_iff_getElem.2 fun i j hi hj hij => ?_
    have := hs i j (Nat.zero_le _) hij (by simpa [hdl] using hj)
    rw [ltZ] at this
    have hi' : i < d'.size := by simpa using hi
    have hj' : j < d'.size := by simpa using hj
    simp [hi', hj'] at this
    simpa using this
  · have hh := Proofs.holdsK_sortWorldK_c Zon.list 4 w g 0 L.toArray d' n os hH hgs p1
    intro i hi
    have hi' : i < d'.size := by simpa using hi
    have hc : ∀ c, c < 4 → (Proofs.sortWorldK Zon.list 4 w g 0 n d' os).cell? ⟨g, 0 + i * 4 + c, none⟩ = some (d'.toList[i].list)[c]! := fun c hc => by
      have := (hh.cell hi' hc).1
      simpa [hi'] using this
    exact ⟨hc 0 (by decide), hc 1 (by decide), hc 2 (by decide), hc 3 (by decide)⟩

end Go.Proofs.YtelndpbkheoeaaaDoor
