/-
  What the sort of the library does with events, by their tickets.
-/
import Derived.Test.YtdncnljcihblbaaDoorSortLay
import Derived.Test.YtdncnljcihblbaaDoorRmP
import Derived.Test.YtdncnljcihblbaaDoorByM
import Derived.Laws.OwnMore
namespace Go.Proofs.YtdncnljcihblbaaDoor
open Go.Shelf Go.RowKit Go.Lib Go.Sort

def Kp.list (x : Kp) : List Value := [.int .i64 x.n, .int .i64 x.e.p, .int .i64 x.e.t, .int .i64 x.e.k, .int .i64 x.e.d, .int .i64 x.e.a, .int .i64 x.e.b, .int .i64 x.e.r]
def Kp.agg (x : Kp) : Value := .agg #[.int .i64 x.n, .int .i64 x.e.p, .int .i64 x.e.t, .int .i64 x.e.k, .int .i64 x.e.d, .int .i64 x.e.a, .int .i64 x.e.b, .int .i64 x.e.r]
def kpCells (L : List Kp) : List Value := L.flatMap Kp.list
def KpAt (w : World) (b off : Nat) (x : Kp) : Prop :=
  w.cell? ⟨b, off, none⟩ = some (.int .i64 x.n) ∧ w.cell? ⟨b, off + 1, none⟩ = some (.int .i64 x.e.p) ∧ w.cell? ⟨b, off + 2, none⟩ = some (.int .i64 x.e.t) ∧ w.cell? ⟨b, off + 3, none⟩ = some (.int .i64 x.e.k) ∧ w.cell? ⟨b, off + 4, none⟩ = some (.int .i64 x.e.d) ∧ w.cell? ⟨b, off + 5, none⟩ = some (.int .i64 x.e.a) ∧ w.cell? ⟨b, off + 6, none⟩ = some (.int .i64 x.e.b) ∧ w.cell? ⟨b, off + 7, none⟩ = some (.int .i64 x.e.r)
def KpsAt (w : World) (b off : Nat) (L : List Kp) : Prop := ∀ i, (h : i < L.length) → KpAt w b (off + i * 8) L[i]

/-- How two are compared. -/
def cmpK (x y : Kp) : Int := if x.n < y.n then -1 else if y.n < x.n then 1 else 0
theorem ltK (x y : Kp) : ltOf cmpK x y = decide (x.n < y.n) := by
  unfold ltOf cmpK
  by_cases h1 : x.n < y.n
  · simp [h1]
  · by_cases h2 : y.n < x.n <;> simp [h1, h2]
theorem swoK : SWO (ltOf cmpK) where
  irrefl x := by rw [ltK]; simp
  trans x y z h1 h2 := by rw [ltK] at *; simp at *; omega
  ntrans x y z h1 h2 := by rw [ltK] at *; simp at *; omega

set_option maxHeartbeats 400000 in
theorem compare_any (a b : Int) (w : World) : Calls Tryd.prog 35 #[.int .i64 a, .int .i64 b] w fun e w' => e = .returned (.int .i64 (if a < b then -1 else if b < a then 1 else 0)) ∧ w' = w := by
  by_cases h1 : a < b
  · rw [if_pos h1]
    go_enter Tryd.func35, Tryd.ntmps35
    go_wp2
    go_ret
    exact ⟨rfl, rfl⟩
  · by_cases h2 : b < a
    · rw [if_neg h1, if_pos h2]
      go_enter Tryd.func35, Tryd.ntmps35
      go_wp2
      go_ret
      exact ⟨rfl, rfl⟩
    · rw [if_neg h1, if_neg h2]
      go_enter Tryd.func35, Tryd.ntmps35
      go_wp2
      go_ret
      exact ⟨rfl, rfl⟩

set_option maxHeartbeats 400000 in
theorem closureK (x y : Kp) (W : World) : Calls Tryd.prog 34 #[x.agg, y.agg] W fun e w' => e = .returned (.int .i64 (cmpK x y)) ∧ ∃ q os', w' = grow (W.drewN q) os' := by
  have hcon := hideIt (fun W' => compare_any x.n y.n W')
  unfold cmpK
  generalize (if x.n < y.n then (-1 : Int) else if y.n < x.n then 1 else 0) = r at hcon ⊢
  unfold Kp.agg
  go_enter Tryd.func34, Tryd.ntmps34
  go_wp2_with (go_at_call 35; refine (hcon.out _).mono ?_; rintro e w' ⟨rfl, rfl⟩)
  go_ret
  exact ⟨rfl, 0, _, by rw [alloc_eq_grow, alloc_eq_grow, grow_grow]; rfl⟩

theorem sortK_any (blk off cap : Nat) (d : Array Kp) (w : World) [Inhabited Kp] (hH : HoldsK Kp.list 8 w blk off d) (hblk : blk < w.heap.size) (hsz : d.size < 4611686018427387904) :
    Calls Tryd.prog 33 #[.slice (some ⟨blk, off, none⟩) d.size cap, .func (.func 34) #[] #[]] w fun e w' => e = .returned (.tuple #[]) ∧ ∃ d' n os, PermIn 0 d.size d d' ∧ SortedIn (ltOf cmpK) 0 d.size d' ∧ w' = sortWorldK Kp.list 8 w blk off n d' os := by
  have eg : ∀ args w, (callFunc 34 args).run Tryd.prog w = .ok (.enter 34 args) w := enters_of Tryd.func34 (by kernel_rfl) rfl
  have hcon := AnyQ.slices_SortFunc sortK 8 Tryd.isAgg80 Tryd.sizeOf80 Kp.list (fun _ => rfl) (fun x v hv => by simp [Kp.list] at hv; rcases hv with rfl | rfl | rfl | rfl | rfl | rfl | rfl | rfl <;> rfl) cmpK swoK 34 #[] blk off cap d w eg (fun _ _ _ _ x y => closureK x y _) hH hblk hsz
  exact hcon

theorem kpList_len (x : Kp) : x.list.length = 8 := rfl
theorem kpCells_get (L : List Kp) (i c : Nat) (hi : i < L.length) (hc : c < 8) : (kpCells L)[i * 8 + c]? = L[i].list[c]? := by
  induction L generalizing i with
  | nil => simp at hi
  | cons x r ih =>
    show (x.list ++ kpCells r)[i * 8 + c]? = _
    cases i with
    | zero =>
      rw [List.getElem?_append_left (by rw [kpList_len]; omega)]
      simp
    | succ i =>
      rw [List.getElem?_append_right (by rw [kpList_len]; omega), kpList_len, show (i + 1) * 8 + c - 8 = i * 8 + c from by omega, ih i (by simpa using hi)]
      simp
theorem kpCells_len (L : List Kp) : (kpCells L).length = L.length * 8 := by
  induction L with
  | nil => rfl
  | cons x r ih => show (x.list ++ kpCells r).length = _; rw [List.length_append, kpList_len, ih]; simp; omega
theorem kpCells_snoc (L : List Kp) (x : Kp) : kpCells (L ++ [x]) = kpCells L ++ x.list := by simp [kpCells]

theorem below_sortK {w : World} {M g n : Nat} {d : Array Kp} {os : Array Obj} [Inhabited Kp] (hg : M ≤ g) (hM : M ≤ w.heap.size) : RowKit.Below M w (Proofs.sortWorldK Kp.list 8 w g 0 n d os) := by
  refine ⟨rfl, rfl, rfl, ?_, fun k hk => ?_⟩
  · simp [Proofs.sortWorldK, Sort.grow, Sort.putRowK, Sort.putRow, Sort.mapBlock, Sort.ahead]
  · simp only [Proofs.sortWorldK, Sort.grow, Sort.putRowK, Sort.putRow, Sort.mapBlock, Sort.ahead]
    rw [Array.getElem?_append_left (by simp; omega), Array.getElem?_modify, if_neg (by omega)]

theorem sortK_list (g cap base M : Nat) (L : List Kp) (w : World) (hlen : L.length ≤ 100000) (ho : w.ownsRow base 80 8 (.slice (some ⟨g, 0, none⟩) L.length cap) L.length (kpCells L)) (hg : M ≤ g) (hM : M ≤ w.heap.size) (hgs : g < w.heap.size) :
    Calls Tryd.prog 33 #[.slice (some ⟨g, 0, none⟩) L.length cap, .func (.func 34) #[] #[]] w fun e w' => e = .returned (.tuple #[]) ∧ ∃ L' : List Kp, L'.Perm L ∧ L'.length = L.length ∧ L'.Pairwise (fun x y => x.n ≤ y.n) ∧ KpsAt w' g 0 L' ∧ w.heap.size ≤ w'.heap.size ∧ RowKit.Below M w w' := by
  haveI : Inhabited Kp := ⟨⟨0, ⟨0, 0, 0, 0, 0, 0, 0⟩⟩⟩
  have hsize : L.toArray.size = L.length := by simp
  have hH : Sort.HoldsK Kp.list 8 w g 0 L.toArray := by
    intro j hj
    have hj' : j < L.length * 8 := by simpa [Sort.flatK] using hj
    have hd : j / 8 < L.length := by omega
    refine ⟨?_, by rw [Nat.zero_add]; exact ho.frozenAt j⟩
    rw [Nat.zero_add, ho.cellAt j hj', show j = j / 8 * 8 + j % 8 from by omega, kpCells_get L (j / 8) (j % 8) hd (by omega)]
    have e1 : (j / 8 * 8 + j % 8) / 8 = j / 8 := by omega
    have e2 : (j / 8 * 8 + j % 8) % 8 = j % 8 := by omega
    have hlt : j % 8 < L[j / 8].list.length := by rw [kpList_len]; omega
    rw [List.getElem?_eq_getElem hlt]
    have hr : j / 8 * 8 + j % 8 < L.length * 8 := by omega
    simp [Sort.flatK, e1, e2, hr, hd, hlt]
  have h := sortK_any g 0 cap L.toArray w hH hgs (by rw [hsize]; omega)
  rw [hsize] at h
  refine h.mono ?_
  rintro e w' ⟨rfl, d', n, os, hp, hs, rfl⟩
  obtain ⟨p1, _, p3⟩ := hp
  have hdl : d'.size = L.length := by rw [p1, hsize]
  have hperm : d'.toList.Perm L := by
    have e1 : (d'.extract 0 L.length).toList = d'.toList := by rw [← hdl]; simp
    have e2 : (L.toArray.extract 0 L.length).toList = L := by simp
    rw [e1, e2] at p3
    exact p3
  refine ⟨rfl, d'.toList, hperm, hperm.length_eq, ?_, ?_, by simp [Proofs.sortWorldK, Sort.grow, Sort.putRowK, Sort.putRow, Sort.mapBlock, Sort.ahead], below_sortK hg hM⟩
  · refine List.pairwise_iff_getElem.2 fun i j hi hj hij => ?_
    have := hs i j (Nat.zero_le _) hij (by simpa [hdl] using hj)
    rw [ltK] at this
    have hi' : i < d'.size := by simpa using hi
    have hj' : j < d'.size := by simpa using hj
    simp [hi', hj'] at this
    simpa using this
  · have hh := Proofs.holdsK_sortWorldK_c Kp.list 8 w g 0 L.toArray d' n os hH hgs p1
    intro i hi
    have hi' : i < d'.size := by simpa using hi
    have hc : ∀ c, c < 8 → (Proofs.sortWorldK Kp.list 8 w g 0 n d' os).cell? ⟨g, 0 + i * 8 + c, none⟩ = some (d'.toList[i].list)[c]! := fun c hc => by
      have := (hh.cell hi' hc).1
      simpa [hi'] using this
    exact ⟨hc 0 (by decide), hc 1 (by decide), hc 2 (by decide), hc 3 (by decide), hc 4 (by decide), hc 5 (by decide), hc 6 (by decide), hc 7 (by decide)⟩

end Go.Proofs.YtdncnljcihblbaaDoor
