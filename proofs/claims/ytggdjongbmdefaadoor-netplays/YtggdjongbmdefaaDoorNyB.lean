/-
  The statement NetPlays: each move of both nets.
-/
import Derived.Test.YtggdjongbmdefaaDoorNyM
namespace Go.Proofs.YtggdjongbmdefaaDoor
open Go.RowKit

/-- Both nets hold the same; a block that is no part of them stays. -/
def GoodN (w : World) (mb : Nat) (mo : Obj) (W : World) : Prop :=
  ∃ (nil : Bool) (n : Nat) (r : Nat → Nat → Bool) (lv v lvd vd : Value) (Ld : List Md), PlayI w W nil n r lv v lvd vd (Ld.map toQ) Ld ∧ Ld.length ≤ 500 ∧ W.heap[mb]? = some mo
/-- The program's net is moved, then the document's: both tell the same. -/
def BothN (w : World) (mb : Nat) (mo : Obj) (fP fD : Nat) (aP aD : Array Value) (Z : World) : Prop :=
  Calls Tryd.prog fP aP Z fun e W2 => ∃ c : Int, e = .returned (toldV c) ∧ Below w.heap.size w W2 ∧ W2.heap[mb]? = some mo ∧
    ∀ W3, Below W2.heap.size W2 W3 → Calls Tryd.prog fD aD W3 fun e W4 => e = .returned (.int .i64 c) ∧ GoodN w mb mo W4
section
variable {w W W' : World} {nil : Bool} {n : Nat} {r : Nat → Nat → Bool} {lv v lvd vd : Value} {L : List Mq} {Ld : List Md} {mb : Nat} {mc : Array Value} {mt : TypeId}
theorem PlayI.blkP {L' : List Mq} {v' : Value} (h : PlayI w W nil n r lv v lvd vd L Ld) (ht : MailT w.heap.size w.heap.size 0 v L' W W' v') (hx : W.heap[mb]? = some (.cells mc mt)) (h1 : mb ≠ w.heap.size) (h2 : mt ≠ 47) : W'.heap[mb]? = some (.cells mc mt) :=
  (ht.rest _ (lt_of_heap hx) h1 (fun e => by have := h.ptag _ e; rw [hx] at this; exact h2 (by simpa [tagD] using this))).trans hx
theorem PlayI.blkD {L' : List Md} {v' : Value} (h : PlayI w W nil n r lv v lvd vd L Ld) (ht : DocT w.heap.size (w.heap.size + 1) vd L' W W' v') (hx : W.heap[mb]? = some (.cells mc mt)) (h1 : mb ≠ w.heap.size + 1) (h2 : mt ≠ 49) : W'.heap[mb]? = some (.cells mc mt) :=
  (ht.rest _ (lt_of_heap hx) h1 (fun e => by have := h.dtag _ e; rw [hx] at this; exact h2 (by simpa [tagD] using this))).trans hx
theorem told_send {m : Md} {e : Ending} (h : PlayI w W nil n r lv v lvd vd L Ld) (ht : SendTold w.heap.size (w.heap.size + 1) 0 vd Ld m W e W') : (500 ≤ Ld.length ∧ e = .returned (.int .i64 4) ∧ Below W.heap.size W W') ∨ (Ld.length < 500 ∧ e = .returned (.int .i64 0) ∧ ∃ v', DocT w.heap.size (w.heap.size + 1) vd (Ld ++ [m]) W W' v') := by
  rcases ht with ⟨h1, h2, h3⟩ | ⟨h1, h2, v', w1, h3, rfl, h4⟩
  · exact .inl ⟨h1, h2, h3⟩
  · refine .inr ⟨h1, h2, v', DocT.of h.dlt h.dn.ne h3 (.inl rfl) ?_ h.dt⟩
    rw [show (Ld ++ [m]).length = Ld.length + 1 by simp]; exact h4
theorem told_gone {k : Nat} (h : PlayI w W nil n r lv v lvd vd L Ld) (hk : k < Ld.length) (ht : GoneTold (w.heap.size + 1) 0 Ld k W W') : ∃ v', DocT w.heap.size (w.heap.size + 1) vd (Ld.eraseIdx k) W W' v' := by
  obtain ⟨v', w1, h3, rfl, h4⟩ := ht
  refine ⟨v', DocT.of h.dlt h.dn.ne h3 (.inr rfl) ?_ h.dt⟩
  rw [List.length_eraseIdx_of_lt hk]
  exact ownsRow_base h4 h.bel.size
theorem map_erase (Ld : List Md) (k : Nat) : (Ld.map toQ).eraseIdx k = (Ld.eraseIdx k).map toQ := by
  rw [List.eraseIdx_eq_take_drop_succ, List.eraseIdx_eq_take_drop_succ, List.map_append, List.map_take, List.map_drop]
theorem map_at {k : Nat} {M : Mq} (h : (Ld.map toQ)[k]? = some M) : ∃ md, Ld[k]? = some md ∧ M = toQ md := by
  rw [List.getElem?_map] at h
  cases e : Ld[k]? with
  | none => rw [e] at h; cases h
  | some md => rw [e] at h; exact ⟨md, rfl, (Option.some.inj h).symm⟩
/-- Sent by both. -/
theorem send_both (md : Md) (h : PlayI w W nil n r lv v lvd vd (Ld.map toQ) Ld) (hl : Ld.length ≤ 500) (hx : W.heap[mb]? = some (.cells mc mt)) (h1 : w.heap.size + 1 < mb) (h2 : mt ≠ 47 ∧ mt ≠ 49) :
    BothN w mb (.cells mc mt) 10 11 #[.pointer (some ⟨w.heap.size, 0, none⟩), .agg #[.int .i64 md.fr, .int .i64 md.to, .int .i64 md.wh]] #[.pointer (some ⟨w.heap.size + 1, 0, none⟩), .agg #[.int .i64 md.fr, .int .i64 md.to, .int .i64 md.wh]] W := by
  refine (psend_any (toQ md) _ _ _ _ _ _ W h.pn).mono ?_
  rintro e W2 (⟨hf, rfl, hb⟩ | ⟨hr, rfl, v2, ht⟩)
  · rw [List.length_map] at hf
    refine ⟨4, by rw [toldV_pos (by decide)], belJ h.bel hb, (hb.block _ (lt_of_heap hx)).trans hx, fun W3 hb3 => ?_⟩
    have hP3 := h.below (hb.trans (hb3.mono hb.size))
    have hx3 : W3.heap[mb]? = some (.cells mc mt) := ((hb.trans (hb3.mono hb.size)).block _ (lt_of_heap hx)).trans hx
    refine (send_any md _ _ 0 _ _ _ Ld hl W3 hP3.dn).mono ?_
    intro e W4 ht
    rcases told_send hP3 ht with ⟨_, rfl, hb4⟩ | ⟨hr, _⟩
    · exact ⟨rfl, nil, n, r, lv, v, lvd, vd, Ld, hP3.below hb4, hl, (hb4.block _ (lt_of_heap hx3)).trans hx3⟩
    · omega
  · rw [List.length_map] at hr
    have hP2 := h.prog ht
    have hx2 := h.blkP ht hx (by omega) h2.1
    refine ⟨0, by rw [toldV_zero], hP2.bel, hx2, fun W3 hb3 => ?_⟩
    have hP3 := hP2.below hb3
    have hx3 : W3.heap[mb]? = some (.cells mc mt) := (hb3.block _ (lt_of_heap hx2)).trans hx2
    refine (send_any md _ _ 0 _ _ _ Ld hl W3 hP3.dn).mono ?_
    intro e W4 ht
    rcases told_send hP3 ht with ⟨hf, _⟩ | ⟨_, rfl, v4, ht4⟩
    · omega
    · refine ⟨rfl, nil, n, r, lv, v2, lvd, v4, Ld ++ [md], ?_, by simp; omega, hP3.blkD ht4 hx3 (by omega) h2.2⟩
      have := hP3.doc ht4
      rwa [show Ld.map toQ ++ [toQ md] = (Ld ++ [md]).map toQ by simp] at this
/-- Dropped by both. -/
theorem drop_both (x : Int) (h : PlayI w W nil n r lv v lvd vd (Ld.map toQ) Ld) (hl : Ld.length ≤ 500) (hx : W.heap[mb]? = some (.cells mc mt)) (h1 : w.heap.size + 1 < mb) (h2 : mt ≠ 47 ∧ mt ≠ 49) :
    BothN w mb (.cells mc mt) 14 15 #[.pointer (some ⟨w.heap.size, 0, none⟩), .int .i64 x] #[.pointer (some ⟨w.heap.size + 1, 0, none⟩), .int .i64 x] W := by
  refine (pdrop_any x _ _ _ _ _ _ (by rw [List.length_map]; exact hl) W h.pn).mono ?_
  rintro e W2 (⟨hf, rfl, hb⟩ | ⟨k, M, rfl, hM, rfl, v2, ht⟩)
  · rw [List.length_map] at hf
    refine ⟨8, by rw [toldV_pos (by decide)], belJ h.bel hb, (hb.block _ (lt_of_heap hx)).trans hx, fun W3 hb3 => ?_⟩
    have hP3 := h.below (hb.trans (hb3.mono hb.size))
    have hx3 : W3.heap[mb]? = some (.cells mc mt) := ((hb.trans (hb3.mono hb.size)).block _ (lt_of_heap hx)).trans hx
    refine (drop_any x _ _ 0 _ _ _ Ld hl W3 hP3.dn).mono ?_
    rintro e W4 (⟨_, rfl, rfl⟩ | ⟨hr, _⟩)
    · exact ⟨rfl, nil, n, r, lv, v, lvd, vd, Ld, hP3, hl, hx3⟩
    · omega
  · obtain ⟨md, hmd, rfl⟩ := map_at hM
    have hk : k < Ld.length := (List.getElem?_eq_some_iff.1 hmd).1
    have hP2 := h.prog ht
    have hx2 := h.blkP ht hx (by omega) h2.1
    refine ⟨0, by rw [toldV_zero], hP2.bel, hx2, fun W3 hb3 => ?_⟩
    have hP3 := hP2.below hb3
    have hx3 : W3.heap[mb]? = some (.cells mc mt) := (hb3.block _ (lt_of_heap hx2)).trans hx2
    refine (drop_any (k : Int) _ _ 0 _ _ _ Ld hl W3 hP3.dn).mono ?_
    rintro e W4 (⟨hf, _⟩ | ⟨_, rfl, hg⟩)
    · omega
    · rw [Int.toNat_natCast] at hg
      obtain ⟨v4, ht4⟩ := told_gone hP3 hk hg
      refine ⟨rfl, nil, n, r, lv, v2, lvd, v4, Ld.eraseIdx k, ?_, by rw [List.length_eraseIdx_of_lt hk]; omega, hP3.blkD ht4 hx3 (by omega) h2.2⟩
      have := hP3.doc ht4
      rwa [map_erase] at this
/-- Doubled by both. -/
theorem double_both (x : Int) (h : PlayI w W nil n r lv v lvd vd (Ld.map toQ) Ld) (hl : Ld.length ≤ 500) (hx : W.heap[mb]? = some (.cells mc mt)) (h1 : w.heap.size + 1 < mb) (h2 : mt ≠ 47 ∧ mt ≠ 49) :
    BothN w mb (.cells mc mt) 16 17 #[.pointer (some ⟨w.heap.size, 0, none⟩), .int .i64 x] #[.pointer (some ⟨w.heap.size + 1, 0, none⟩), .int .i64 x] W := by
  refine (pdouble_any x _ _ _ _ _ _ W h.pn).mono ?_
  rintro e W2 (⟨hf, rfl, hb⟩ | ⟨k, M, rfl, hM, (⟨hf, rfl, hb⟩ | ⟨hr, rfl, v2, ht⟩)⟩)
  · rw [List.length_map] at hf
    refine ⟨8, by rw [toldV_pos (by decide)], belJ h.bel hb, (hb.block _ (lt_of_heap hx)).trans hx, fun W3 hb3 => ?_⟩
    have hP3 := h.below (hb.trans (hb3.mono hb.size))
    have hx3 : W3.heap[mb]? = some (.cells mc mt) := ((hb.trans (hb3.mono hb.size)).block _ (lt_of_heap hx)).trans hx
    refine (double_any x _ _ 0 _ _ _ Ld hl W3 hP3.dn).mono ?_
    rintro e W4 (⟨_, rfl, rfl⟩ | ⟨k, m, rfl, hm, _⟩)
    · exact ⟨rfl, nil, n, r, lv, v, lvd, vd, Ld, hP3, hl, hx3⟩
    · have := (List.getElem?_eq_some_iff.1 hm).1; omega
  · rw [List.length_map] at hf
    obtain ⟨md, hmd, rfl⟩ := map_at hM
    have hk : k < Ld.length := (List.getElem?_eq_some_iff.1 hmd).1
    refine ⟨4, by rw [toldV_pos (by decide)], belJ h.bel hb, (hb.block _ (lt_of_heap hx)).trans hx, fun W3 hb3 => ?_⟩
    have hP3 := h.below (hb.trans (hb3.mono hb.size))
    have hx3 : W3.heap[mb]? = some (.cells mc mt) := ((hb.trans (hb3.mono hb.size)).block _ (lt_of_heap hx)).trans hx
    refine (double_any (k : Int) _ _ 0 _ _ _ Ld hl W3 hP3.dn).mono ?_
    rintro e W4 (⟨hb, _⟩ | ⟨k', m, hkk, hm, ht⟩)
    · omega
    · rcases told_send hP3 ht with ⟨_, rfl, hb4⟩ | ⟨hr, _⟩
      · exact ⟨rfl, nil, n, r, lv, v, lvd, vd, Ld, hP3.below hb4, hl, (hb4.block _ (lt_of_heap hx3)).trans hx3⟩
      · omega
  · rw [List.length_map] at hr
    obtain ⟨md, hmd, rfl⟩ := map_at hM
    have hk : k < Ld.length := (List.getElem?_eq_some_iff.1 hmd).1
    have hP2 := h.prog ht
    have hx2 := h.blkP ht hx (by omega) h2.1
    refine ⟨0, by rw [toldV_zero], hP2.bel, hx2, fun W3 hb3 => ?_⟩
    have hP3 := hP2.below hb3
    have hx3 : W3.heap[mb]? = some (.cells mc mt) := (hb3.block _ (lt_of_heap hx2)).trans hx2
    refine (double_any (k : Int) _ _ 0 _ _ _ Ld hl W3 hP3.dn).mono ?_
    rintro e W4 (⟨hb, _⟩ | ⟨k', m, hkk, hm, ht⟩)
    · omega
    · obtain rfl : k = k' := by omega
      obtain rfl : md = m := Option.some.inj (hmd.symm.trans hm)
      rcases told_send hP3 ht with ⟨hf, _⟩ | ⟨_, rfl, v4, ht4⟩
      · omega
      · refine ⟨rfl, nil, n, r, lv, v2, lvd, v4, Ld ++ [md], ?_, by simp; omega, hP3.blkD ht4 hx3 (by omega) h2.2⟩
        have := hP3.doc ht4
        rwa [show Ld.map toQ ++ [toQ md] = (Ld ++ [md]).map toQ by simp] at this
/-- Who can talk is the same to both. -/
theorem open_let (nil : Bool) (n : Nat) (r : Nat → Nat → Bool) (x y : Int) : openL (!nil) (tabL n r) x y = letL nil (tabL n r) x y := by
  unfold openL letL
  cases nil <;> simp
theorem LnkS.toQ {w : World} {X : Nat → Prop} {lv : Value} {M : List (List Bool)} (h : LnkS w X lv M) : LnkQ w lv M := by
  obtain ⟨a, cap, e, h⟩ := h
  refine ⟨a, cap, e, h.imp id fun ⟨g, off, e, _, h⟩ => ⟨g, off, e, fun i hi => ?_⟩⟩
  obtain ⟨ra, rc, h1, h2⟩ := h i hi
  exact ⟨ra, rc, h1, h2.imp id fun ⟨rg, ro, e, _, h⟩ => ⟨rg, ro, e, h⟩⟩
/-- Taken by both. -/
theorem take_both (x : Int) (h : PlayI w W nil n r lv v lvd vd (Ld.map toQ) Ld) (hl : Ld.length ≤ 500) (hx : W.heap[mb]? = some (.cells mc mt)) (h1 : w.heap.size + 1 < mb) (h2 : mt ≠ 47 ∧ mt ≠ 49) :
    Calls Tryd.prog 12 #[.pointer (some ⟨w.heap.size, 0, none⟩), .int .i64 x] W fun e W2 => ∃ (c : Int) (md : Md), e = .returned (.tuple #[.agg #[.int .i64 md.fr, .int .i64 md.to, .int .i64 md.wh], toldV c]) ∧ Below w.heap.size w W2 ∧ W2.heap[mb]? = some (.cells mc mt) ∧
      ∀ W3, Below W2.heap.size W2 W3 → Calls Tryd.prog 13 #[.pointer (some ⟨w.heap.size + 1, 0, none⟩), .int .i64 x] W3 fun e W4 => e = .returned (.tuple #[.agg #[.int .i64 md.fr, .int .i64 md.to, .int .i64 md.wh], .int .i64 c]) ∧ GoodN w mb (.cells mc mt) W4 ∧ ∀ b mc' mt', W3.heap[b]? = some (.cells mc' mt') → w.heap.size + 1 < b → mt' ≠ 49 → W4.heap[b]? = some (.cells mc' mt') := by
  have hLN : LnkN W (fun _ => True) lv nil (tabL n r) := h.lk.imp id fun ⟨e, h1, h2, _⟩ => ⟨e, LnkS.mono h1 fun _ _ _ => trivial, h2⟩
  have hLQ : ∀ {Z v lvd vd L}, PlayI w Z nil n r lv v lvd vd L Ld → ((!nil) = true → LnkQ Z lvd (tabL n r)) := fun hp hn => by
    rcases hp.lk with ⟨e, _⟩ | ⟨_, _, _, h3⟩
    · rw [e] at hn; cases hn
    · exact h3.toQ
  refine (ptake_any x _ _ _ _ _ _ (by rw [List.length_map]; exact hl) (fun _ => True) nil (tabL n r) W h.pn hLN).mono ?_
  rintro e W2 (⟨hf, rfl, hb⟩ | ⟨k, M, rfl, hM, hle, rfl, hb⟩ | ⟨k, M, rfl, hM, hle, rfl, v2, ht⟩)
  · rw [List.length_map] at hf
    refine ⟨8, md0, by rw [toldV_pos (by decide)]; rfl, belJ h.bel hb, (hb.block _ (lt_of_heap hx)).trans hx, fun W3 hb3 => ?_⟩
    have hP3 := h.below (hb.trans (hb3.mono hb.size))
    have hx3 : W3.heap[mb]? = some (.cells mc mt) := ((hb.trans (hb3.mono hb.size)).block _ (lt_of_heap hx)).trans hx
    refine (take_any x _ _ 0 _ _ _ (tabL n r) Ld hl W3 hP3.dn (hLQ hP3)).mono ?_
    rintro e W4 (⟨_, rfl, hb4⟩ | ⟨k, m, rfl, hm, _⟩ | ⟨k, m, rfl, hm, _⟩)
    · exact ⟨rfl, ⟨nil, n, r, lv, v, lvd, vd, Ld, hP3.below hb4, hl, (hb4.block _ (lt_of_heap hx3)).trans hx3⟩, fun b _ _ hb' _ _ => (hb4.block _ (lt_of_heap hb')).trans hb'⟩
    · have := (List.getElem?_eq_some_iff.1 hm).1; omega
    · have := (List.getElem?_eq_some_iff.1 hm).1; omega
  · obtain ⟨md, hmd, rfl⟩ := map_at hM
    have hk : k < Ld.length := (List.getElem?_eq_some_iff.1 hmd).1
    refine ⟨6, md0, by rw [toldV_pos (by decide)]; rfl, belJ h.bel hb, (hb.block _ (lt_of_heap hx)).trans hx, fun W3 hb3 => ?_⟩
    have hP3 := h.below (hb.trans (hb3.mono hb.size))
    have hx3 : W3.heap[mb]? = some (.cells mc mt) := ((hb.trans (hb3.mono hb.size)).block _ (lt_of_heap hx)).trans hx
    refine (take_any (k : Int) _ _ 0 _ _ _ (tabL n r) Ld hl W3 hP3.dn (hLQ hP3)).mono ?_
    rintro e W4 (⟨hb, _⟩ | ⟨k', m, hkk, hm, _, rfl, hb4⟩ | ⟨k', m, hkk, hm, ho, _⟩)
    · omega
    · exact ⟨rfl, ⟨nil, n, r, lv, v, lvd, vd, Ld, hP3.below hb4, hl, (hb4.block _ (lt_of_heap hx3)).trans hx3⟩, fun b _ _ hb' _ _ => (hb4.block _ (lt_of_heap hb')).trans hb'⟩
    · obtain rfl : k = k' := by omega
      obtain rfl : md = m := Option.some.inj (hmd.symm.trans hm)
      rw [open_let] at ho
      have hle : letL nil (tabL n r) md.fr md.to = false := hle
      rw [ho] at hle; cases hle
  · obtain ⟨md, hmd, rfl⟩ := map_at hM
    have hk : k < Ld.length := (List.getElem?_eq_some_iff.1 hmd).1
    have hP2 := h.prog ht
    have hx2 := h.blkP ht hx (by omega) h2.1
    refine ⟨0, md, by rw [toldV_zero]; rfl, hP2.bel, hx2, fun W3 hb3 => ?_⟩
    have hP3 := hP2.below hb3
    have hx3 : W3.heap[mb]? = some (.cells mc mt) := (hb3.block _ (lt_of_heap hx2)).trans hx2
    refine (take_any (k : Int) _ _ 0 _ _ _ (tabL n r) Ld hl W3 hP3.dn (hLQ hP3)).mono ?_
    rintro e W4 (⟨hb, _⟩ | ⟨k', m, hkk, hm, ho, _⟩ | ⟨k', m, hkk, hm, _, rfl, hg⟩)
    · omega
    · obtain rfl : k = k' := by omega
      obtain rfl : md = m := Option.some.inj (hmd.symm.trans hm)
      rw [open_let] at ho
      have hle : letL nil (tabL n r) md.fr md.to = true := hle
      rw [ho] at hle; cases hle
    · obtain rfl : k = k' := by omega
      obtain rfl : md = m := Option.some.inj (hmd.symm.trans hm)
      obtain ⟨v4, ht4⟩ := told_gone hP3 hk hg
      refine ⟨rfl, ⟨nil, n, r, lv, v2, lvd, v4, Ld.eraseIdx k, ?_, by rw [List.length_eraseIdx_of_lt hk]; omega, hP3.blkD ht4 hx3 (by omega) h2.2⟩, fun b _ _ hb' h5 h6 => hP3.blkD ht4 hb' (by omega) h6⟩
      have := hP3.doc ht4
      rwa [map_erase] at this
end
end Go.Proofs.YtggdjongbmdefaaDoor
