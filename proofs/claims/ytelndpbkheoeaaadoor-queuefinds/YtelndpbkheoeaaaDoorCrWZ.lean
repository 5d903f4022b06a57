/-
  Package queue's crossedBy, walked.
  Package queue's pairs, walked.
  Package queue's least and Finds, walked.
  Package queue's Finds of no op, and of whatever list.
-/
import Derived.Test.YtelndpbkheoeaaaDoorQpWZ
import Derived.Test.YtelndpbkheoeaaaDoorLeW
import Derived.Test.YtelndpbkheoeaaaDoorZonWZ
import Derived.Laws.AppendOwnNone
namespace Go.Proofs.YtelndpbkheoeaaaDoor
open Go.RowKit

def prCells (L : List Pr) : List Value := L.flatMap Pr.list
theorem prCells_snoc (L : List Pr) (x : Pr) : prCells (L ++ [x]) = prCells L ++ x.list := by simp [prCells]
theorem prCells_app (L M : List Pr) : prCells (L ++ M) = prCells L ++ prCells M := by simp [prCells]
theorem prCells_len (L : List Pr) : (prCells L).length = L.length * 2 := by
  induction L with
  | nil => rfl
  | cons x r ih => show (x.list ++ prCells r).length = _; rw [List.length_append, ih]; simp [Pr.list]; omega
theorem prCells_get (L : List Pr) (i c : Nat) (hi : i < L.length) (hc : c < 2) : (prCells L)[i * 2 + c]? = L[i].list[c]? := by
  induction L generalizing i with
  | nil => simp at hi
  | cons x r ih =>
    show (x.list ++ prCells r)[i * 2 + c]? = _
    cases i with
    | zero =>
      rw [List.getElem?_append_left (by simp [Pr.list]; omega)]
      simp
    | succ i =>
      rw [List.getElem?_append_right (by simp [Pr.list]; omega), show x.list.length = 2 from rfl, show (i + 1) * 2 + c - 2 = i * 2 + c from by omega, ih i (by simpa using hi)]
      simp
theorem prCells_one (L : List Pr) : ∀ u ∈ prCells L, u.oneCell' = true := fun u hu => by
  obtain ⟨p, _, h⟩ := List.mem_flatMap.1 hu
  simp [Pr.list] at h
  rcases h with rfl | rfl <;> rfl
theorem info77 : (Tryd.prog.info? 77).map (fun i => (i.zero, i.size, i.bytes)) = some (some (.agg #[.int .i64 0, .int .i64 0]), 2, 16) := by kernel_rfl

theorem ownsRow_low {w : World} {base base' : Nat} {e : TypeId} {size : Nat} {v : Value} {n : Nat} {xs : List Value} (h : w.ownsRow base e size v n xs) (hb : base' ≤ base) : w.ownsRow base' e size v n xs := by
  obtain ⟨hl, h | ⟨g, cap, cur, rfl, h0, h1⟩⟩ := h
  · exact ⟨hl, .inl h⟩
  · exact ⟨hl, .inr ⟨g, cap, cur, rfl, by omega, h1⟩⟩

theorem grown_below {w w' : World} (h : Below w.heap.size w w') : w.grownBy w' none := ⟨h.os, h.tape, h.output, h.size, fun i hi _ => h.block i hi⟩

/-- The pairs of a life with all others. -/
structure GotX (l : List Opn) (f : Int → Option Life) (s : Life) (qs : List Int) (L : List Pr) : Prop where
  mem : ∀ p, p ∈ L ↔ ∃ u t, u ∈ qs ∧ f u = some t ∧ crossB l s t = true ∧ p = ⟨s.push, t.push⟩
  len : L.length ≤ qs.length
theorem gotX_nil (l : List Opn) (f : Int → Option Life) (s : Life) : GotX l f s [] [] := ⟨fun p => by simp, Nat.le_refl _⟩
theorem GotX.yes {l : List Opn} {f : Int → Option Life} {s t : Life} {qs : List Int} {L : List Pr} {u : Int} (h : GotX l f s qs L) (hf : f u = some t) (hc : crossB l s t = true) : GotX l f s (qs ++ [u]) (L ++ [(⟨s.push, t.push⟩ : Pr)]) := by
  refine ⟨fun p => ?_, by have := h.len; simp; omega⟩
  rw [List.mem_append, h.mem p]
  constructor
  · rintro (⟨v, t', hv, r⟩ | hp)
    · exact ⟨v, t', List.mem_append.2 (.inl hv), r⟩
    · exact ⟨u, t, by simp, hf, hc, by simpa using hp⟩
  · rintro ⟨v, t', hv, hf', r⟩
    rcases List.mem_append.1 hv with hv | hv
    · exact .inl ⟨v, t', hv, hf', r⟩
    · obtain rfl := List.mem_singleton.1 hv
      obtain rfl := Option.some.inj (hf.symm.trans hf')
      exact .inr (by simp [r.2])
theorem GotX.no {l : List Opn} {f : Int → Option Life} {s t : Life} {qs : List Int} {L : List Pr} {u : Int} (h : GotX l f s qs L) (hf : f u = some t) (hc : crossB l s t = false) : GotX l f s (qs ++ [u]) L := by
  refine ⟨fun p => ?_, by have := h.len; simp; omega⟩
  rw [h.mem p]
  constructor
  · rintro ⟨v, t', hv, r⟩
    exact ⟨v, t', List.mem_append.2 (.inl hv), r⟩
  · rintro ⟨v, t', hv, hf', hc', r⟩
    rcases List.mem_append.1 hv with hv | hv
    · exact ⟨v, t', hv, hf', hc', r⟩
    · obtain rfl := List.mem_singleton.1 hv
      obtain rfl := Option.some.inj (hf.symm.trans hf')
      rw [hc] at hc'; cases hc'

set_option maxHeartbeats 2000000 in
theorem crossedBy_any (l : List Opn) (f : Int → Option Life) (s : Life) (b off cap M n : Nat) (w : World) (hn : n ≤ 60) (hm : MapV Tryd.prog Life.val w M n f) (hl : OpsAt w b off l) (hb : b < w.heap.size)
    (hnum : ∀ v t, f v = some t → (t.pop = -1 ∨ NumOf l t.pop) ∧ NumOf l t.push) (hs : (s.pop = -1 ∨ NumOf l s.pop) ∧ NumOf l s.push) :
    Calls Tryd.prog 46 #[.map (some M), s.val, .slice (some ⟨b, off, none⟩) l.length cap] w fun e w' => ∃ v L qs, e = .returned v ∧ w'.ownsRow w.heap.size 77 2 v L.length (prCells L) ∧ GotX l f s qs L ∧ (∀ q, q ∈ qs ↔ (f q).isSome = true) ∧ qs.length ≤ 60 ∧ Below w.heap.size w w' := by
  have hM := hm.lt
  have HO := hideIt hl
  have HM0 := hideIt (hm.alloc (.cells #[.int .i64 s.push, .int .i64 s.pop, .int .i64 s.again] 90))
  have HX : Hid (∀ (u : Int) (t : Life) (W : World), f u = some t → Below w.heap.size w W → Calls Tryd.prog 65 #[s.val, t.val, .slice (some ⟨b, off, none⟩) l.length cap] W fun e w' => e = .returned (.bool (crossB l s t)) ∧ Below W.heap.size W w') := fun u t W ht hW =>
    crossed_any l s t b off cap W (HO.out.below hb hW) (Nat.lt_of_lt_of_le hb hW.size) hs.1 hs.2 (hnum u t ht).1 (hnum u t ht).2
  obtain ⟨i0, hi, hz0, hz1, hz2⟩ := info_parts info77
  have HSZ : Hid ((w.alloc (.cells #[.int .i64 s.push, .int .i64 s.pop, .int .i64 s.again] 90)).heap.size = w.heap.size + 1) := hideIt (by simp)
  clear hl hm hs hnum
  unfold Life.val at HX ⊢
  go_enter Tryd.func46, Tryd.ntmps46
  go_wp2_with (at_range; refine wpList_range_v (mk := Life.val) _ Tryd.underlying3 rfl _ _ rfl _ Tryd.underlying72 _ _ _ rfl HM0.out ?_; intro w2 hr2 hg2 hs2 hc2; rw [HSZ.out] at hr2 hc2 ⊢)
  go_frame
  go_loopw [7] (fun v wr => ∃ (left : Int → Bool) (qs : List Int) (L : List Pr), RangeV Tryd.prog Life.val wr M (w.heap.size + 1) n f left ∧ wr.ownsRow (w.heap.size + 1) 77 2 v L.length (prCells L) ∧ ColV f left qs ∧ qs.length + wr.rangeLeft M (w.heap.size + 1) ≤ n ∧ GotX l f s qs L ∧ wr.heap[w.heap.size]? = some (.cells #[.int .i64 s.push, .int .i64 s.pop, .int .i64 s.again] 90) ∧ Below w.heap.size w wr)
    (fun _ wr => wr.rangeLeft M (w.heap.size + 1))
  case atStart =>
    refine ⟨_, [], [], hr2, World.ownsRow_nil _ _ _ _, colV_start f, by simpa using hc2, gotX_nil l f s, (hg2.block w.heap.size (by simp) (by simp)).trans (heap_alloc_new w _), ((belA (Below.refl _ _) _).grown hg2 (by simp) (fun k hk => by cases hk))⟩
  case round =>
    obtain ⟨left, qs, L, hrg, hro, hcol, hcnt, hgot, hbox, hnx⟩ := hrel
    have hir := rangeV_row hrg hro
    have hszr := hnx.size
    have hrl := hrg.ltr
    have hMr := hrg.map.lt
    have HGOT := hideIt hgot
    have HNX := hideIt hnx
    clear hgot
    go_wp2_with (at_next; refine wpList_next_v _ Tryd.underlying3 rfl _ rfl M (w.heap.size + 1) n f left rfl hrg ?_ ?_)
    · intro hleft
      have R1 := hideIt (colV_end hcol hleft)
      have R2 := hideIt (ownsRow_low hro (Nat.le_succ _))
      clear hro hrg hcol hir hleft hbox
      go_wp2
      go_ret
      exact ⟨_, L, qs, rfl, R2.out, HGOT.out, R1.out, by omega, HNX.out⟩
    · intro u t w3 hwf hfu hlu hrg3 hlt3 hg3 hs3 hen
      have hro3 := hro.kept hg3 (.inr hir)
      have HRO := hideIt hro3
      have HRG := hideIt hrg3
      have HCO := hideIt (colV_step hcol hlu (by rw [hfu]; rfl))
      have HB3 : Hid (Below w.heap.size w w3) := hnx.grown hg3 (by omega) (fun k hk => by have := Option.some.inj hk; omega)
      have HBOX : Hid (w3.heap[w.heap.size]? = some (.cells #[.int .i64 s.push, .int .i64 s.pop, .int .i64 s.again] 90)) := (hg3.block w.heap.size (by omega) (by simp)).trans hbox
      have hlt0 : w.heap.size < w3.heap.size := by omega
      have hltr : w.heap.size + 1 < w3.heap.size := by omega
      have hM3 : M < w3.heap.size := by omega
      have hqs : qs.length ≤ 60 := by omega
      have HLT := hideIt hlt3
      have b0 : ∀ o : Obj, (w3.alloc o).cell? ⟨w.heap.size, 0, none⟩ = some (.int .i64 s.push) := fun o => (World.cell?_alloc_lt _ _ ⟨w.heap.size, 0, none⟩ hlt0).trans (by simp [World.cell?, HBOX.out])
      have b1 : ∀ o : Obj, (w3.alloc o).cell? ⟨w.heap.size, 1, none⟩ = some (.int .i64 s.pop) := fun o => (World.cell?_alloc_lt _ _ ⟨w.heap.size, 1, none⟩ hlt0).trans (by simp [World.cell?, HBOX.out])
      have b2 : ∀ o : Obj, (w3.alloc o).cell? ⟨w.heap.size, 2, none⟩ = some (.int .i64 s.again) := fun o => (World.cell?_alloc_lt _ _ ⟨w.heap.size, 2, none⟩ hlt0).trans (by simp [World.cell?, HBOX.out])
      have HC := hideIt (fun W hW => HX.out u t W hfu hW)
      obtain ⟨cb, HCB⟩ : ∃ cb, Hid (crossB l s t = cb) := ⟨_, hideIt rfl⟩
      rw [HCB.out] at HC
      clear hro hrg hrg3 hro3 hcol hlu hlt3 hs3 hg3 hbox
      unfold Life.val at hen
      unfold Life.val
      go_wp2_with fail
      refine (HC.out _ (belA HB3.out _)).mono ?_
      rintro e w4 ⟨rfl, hb4⟩
      have HB4 : Hid (Below w.heap.size w w4) := (belA HB3.out _).trans (hb4.mono (belA HB3.out _).size)
      have hg34 : w3.grownBy w4 none := (World.grownBy_alloc w3 _ _).trans (grown_below hb4)
      have HRG4 := hideIt (HRG.out.kept hg34 (by simp) (by simp))
      have HRO4 := hideIt (HRO.out.kept hg34 (Classical.em _))
      have HCNT : Hid (w4.rangeLeft M (w.heap.size + 1) < wr.rangeLeft M (w.heap.size + 1)) := by
        show w4.rangeLeft M (w.heap.size + 1) < wr.rangeLeft M (w.heap.size + 1)
        rw [HRG.out.count hg34 (by simp) (by simp)]; exact HLT.out
      have HBOX4 : Hid (w4.heap[w.heap.size]? = some (.cells #[.int .i64 s.push, .int .i64 s.pop, .int .i64 s.again] 90)) := (hg34.block w.heap.size hlt0 (by simp)).trans HBOX.out
      have hsz4 := hg34.size
      cases cb
      · have R1 := hideIt (HGOT.out.no hfu HCB.out)
        have R6 : Hid ((qs ++ [u]).length + w4.rangeLeft M (w.heap.size + 1) ≤ n) := by
          show (qs ++ [u]).length + w4.rangeLeft M (w.heap.size + 1) ≤ n
          have := HCNT.out
          simp
          omega
        clear hb4 hg34
        go_wp2
        go_roundw
        case rel => exact ⟨_, qs ++ [u], L, HRG4.out, HRO4.out, HCO.out, R6.out, R1.out, HBOX4.out, HB4.out⟩
        case measure => exact HCNT.out
      · have x0 : w4.cell? ⟨w.heap.size, 0, none⟩ = some (.int .i64 s.push) := by simp [World.cell?, HBOX4.out]
        have x1 : w4.cell? ⟨w3.heap.size, 0, none⟩ = some (.int .i64 t.push) := (hb4.cell (p := ⟨w3.heap.size, 0, none⟩) (by simp)).trans (by simp)
        have hll := HGOT.out.len
        clear hb4 hg34
        go_wp2_with (at_builtin; refine wpList_append_own _ rfl _ _ 74 rfl (w.heap.size + 1) 77 i0 _ 2 16 Tryd.underlying74 hi hz0 hz1 hz2 rfl (by decide) _ _ _ rfl (HRO4.out.alloc _) ⟨w4.heap.size, 0, none⟩ 1 1 (Pr.list ⟨s.push, t.push⟩) rfl rfl ?c1 ?c2 ?c3 ?c4 ?c5 ?_)
        case c1 =>
          intro j v hj
          match j, hj with
          | 0, hj => simp [Pr.list] at hj; subst hj; first | (simp; done) | simp [Addr.add]
          | 1, hj => simp [Pr.list] at hj; subst hj; first | (simp; done) | simp [Addr.add]
          | m + 2, hj => simp [Pr.list] at hj
        case c2 => intro v hv; simp [Pr.list] at hv; rcases hv with rfl | rfl <;> rfl
        case c3 => unfold maxLen; omega
        case c4 => omega
        case c5 => first | omega | (simp; omega)
        · intro v' w5 hown5 hgrow hnil5
          have hrow5 : ∀ k, Value.ownBlock _ = some k → w.heap.size + 1 ≤ k := fun k hk => (HRO4.out.lt k hk).1
          have hgall := (World.grownBy_alloc w4 _ _).trans hgrow
          have hkM : some M ≠ Value.ownBlock _ := fun k => by have := hrow5 M k.symm; omega
          have hkB : some w.heap.size ≠ Value.ownBlock _ := fun k => by have := hrow5 w.heap.size k.symm; omega
          have R3 := hideIt (HRG4.out.kept hgall hkM (Ne.symm hir))
          have R4 : Hid (w5.rangeLeft M (w.heap.size + 1) < wr.rangeLeft M (w.heap.size + 1)) := by
            show w5.rangeLeft M (w.heap.size + 1) < wr.rangeLeft M (w.heap.size + 1)
            rw [HRG4.out.count hgall hkM (Ne.symm hir)]; exact HCNT.out
          have R1 : Hid (w5.ownsRow (w.heap.size + 1) 77 2 v' (L ++ [(⟨s.push, t.push⟩ : Pr)]).length (prCells (L ++ [(⟨s.push, t.push⟩ : Pr)]))) := by
            show w5.ownsRow (w.heap.size + 1) 77 2 v' (L ++ [(⟨s.push, t.push⟩ : Pr)]).length (prCells (L ++ [(⟨s.push, t.push⟩ : Pr)]))
            rw [prCells_snoc, List.length_append]
            exact hown5
          have R2 : Hid (Below w.heap.size w w5) := HB4.out.grown hgall (by omega) (fun k hk => by have := hrow5 k hk; omega)
          have R5 := hideIt (HGOT.out.yes hfu HCB.out)
          have R7 : Hid (w5.heap[w.heap.size]? = some (.cells #[.int .i64 s.push, .int .i64 s.pop, .int .i64 s.again] 90)) := (hgall.block w.heap.size (by omega) hkB).trans HBOX4.out
          have R6 : Hid ((qs ++ [u]).length + w5.rangeLeft M (w.heap.size + 1) ≤ n) := by
            show (qs ++ [u]).length + w5.rangeLeft M (w.heap.size + 1) ≤ n
            have := R4.out
            simp
            omega
          clear hown5 hgrow hgall hnil5 hkM hkB
          go_wp2
          go_roundw
          case rel => exact ⟨_, qs ++ [u], _, R3.out, R1.out, HCO.out, R6.out, R5.out, R7.out, R2.out⟩
          case measure => exact R4.out

end Go.Proofs.YtelndpbkheoeaaaDoor

namespace Go.Proofs.YtelndpbkheoeaaaDoor
open Go.RowKit

/-- What a life gives of a code. -/
def pcP (l : List Opn) (f : Int → Option Life) (code : Int) (s : Life) (p : Pr) : Prop :=
  if code = 1 then s.push = -1 ∧ p = ⟨s.pop, s.pop⟩
  else if code = 2 then s.again ≠ -1 ∧ p = ⟨s.pop, s.again⟩
  else if code = 3 then earlyB l s = true ∧ p = ⟨s.push, s.pop⟩
  else ∃ u t, f u = some t ∧ crossB l s t = true ∧ p = ⟨s.push, t.push⟩
structure GotP (l : List Opn) (f : Int → Option Life) (code : Int) (qs : List Int) (L : List Pr) : Prop where
  mem : ∀ p, p ∈ L ↔ ∃ v s, v ∈ qs ∧ f v = some s ∧ pcP l f code s p
  len : L.length ≤ qs.length * 60
theorem gotP_nil (l : List Opn) (f : Int → Option Life) (code : Int) : GotP l f code [] [] := ⟨fun p => by simp, by simp⟩
theorem GotP.add {l : List Opn} {f : Int → Option Life} {code : Int} {s : Life} {qs : List Int} {L M : List Pr} {v : Int} (h : GotP l f code qs L) (hf : f v = some s) (hM : ∀ p, p ∈ M ↔ pcP l f code s p) (hl : M.length ≤ 60) : GotP l f code (qs ++ [v]) (L ++ M) := by
  refine ⟨fun p => ?_, by have := h.len; simp [Nat.add_mul]; omega⟩
  rw [List.mem_append, h.mem p, hM p]
  constructor
  · rintro (⟨u, t, hu, r⟩ | hp)
    · exact ⟨u, t, List.mem_append.2 (.inl hu), r⟩
    · exact ⟨v, s, by simp, hf, hp⟩
  · rintro ⟨u, t, hu, hf', r⟩
    rcases List.mem_append.1 hu with hu | hu
    · exact .inl ⟨u, t, hu, hf', r⟩
    · obtain rfl := List.mem_singleton.1 hu
      obtain rfl := Option.some.inj (hf.symm.trans hf')
      exact .inr r
theorem GotP.skip {l : List Opn} {f : Int → Option Life} {code : Int} {s : Life} {qs : List Int} {L : List Pr} {v : Int} (h : GotP l f code qs L) (hf : f v = some s) (hM : ∀ p, ¬ pcP l f code s p) : GotP l f code (qs ++ [v]) L := by
  have := h.add (M := []) hf (fun p => ⟨fun h => (by cases h), fun h => absurd h (hM p)⟩) (by simp)
  rwa [List.append_nil] at this
theorem GotP.one {l : List Opn} {f : Int → Option Life} {code : Int} {s : Life} {qs : List Int} {L : List Pr} {v : Int} {x : Pr} (h : GotP l f code qs L) (hf : f v = some s) (hM : ∀ p, p = x ↔ pcP l f code s p) : GotP l f code (qs ++ [v]) (L ++ [x]) :=
  h.add hf (fun p => by rw [List.mem_singleton]; exact hM p) (by simp)
/-- What is handed back. -/
def PairsT (l : List Opn) (f : Int → Option Life) (code : Int) (w : World) (e : Ending) (w' : World) : Prop :=
  ∃ v L qs, e = .returned v ∧ w'.ownsRow w.heap.size 77 2 v L.length (prCells L) ∧ GotP l f code qs L ∧ (∀ q, q ∈ qs ↔ (f q).isSome = true) ∧ qs.length ≤ 60 ∧ Below w.heap.size w w'

set_option maxHeartbeats 2000000 in
theorem pairs1_any (l : List Opn) (f : Int → Option Life) (b off cap M n : Nat) (w : World) (hn : n ≤ 60) (hm : MapV Tryd.prog Life.val w M n f) :
    Calls Tryd.prog 31 #[.map (some M), .int .i64 1, .slice (some ⟨b, off, none⟩) l.length cap] w fun e w' => PairsT l f 1 w e w' := by
  have hM := hm.lt
  obtain ⟨i0, hi, hz0, hz1, hz2⟩ := info_parts info77
  have HM0 := hideIt hm
  clear hm
  go_enter Tryd.func31, Tryd.ntmps31
  go_wp2_with (at_range; refine wpList_range_v (mk := Life.val) _ Tryd.underlying3 rfl _ _ rfl _ Tryd.underlying72 _ _ _ rfl HM0.out ?_; intro w2 hr2 hg2 hs2 hc2)
  go_frame
  go_loopw [7] (fun v wr => ∃ (left : Int → Bool) (qs : List Int) (L : List Pr), RangeV Tryd.prog Life.val wr M w.heap.size n f left ∧ wr.ownsRow w.heap.size 77 2 v L.length (prCells L) ∧ ColV f left qs ∧ qs.length + wr.rangeLeft M w.heap.size ≤ n ∧ GotP l f 1 qs L ∧ Below w.heap.size w wr)
    (fun _ wr => wr.rangeLeft M w.heap.size)
  case atStart => exact ⟨_, [], [], hr2, World.ownsRow_nil _ _ _ _, colV_start f, by simpa using hc2, gotP_nil l f 1, (Below.refl _ _).grown hg2 (Nat.le_refl _) (fun k hk => by cases hk)⟩
  case round =>
    obtain ⟨left, qs, L, hrg, hro, hcol, hcnt, hgot, hnx⟩ := hrel
    have hir := rangeV_row hrg hro
    have hszr := hnx.size
    have hrl := hrg.ltr
    have hMr := hrg.map.lt
    have HGOT := hideIt hgot
    have HNX := hideIt hnx
    clear hgot
    go_wp2_with (at_next; refine wpList_next_v _ Tryd.underlying3 rfl _ rfl M w.heap.size n f left rfl hrg ?_ ?_)
    · intro hleft
      have R1 := hideIt (colV_end hcol hleft)
      have R2 := hideIt hro
      clear hro hrg hcol hir hleft
      go_wp2
      go_ret
      exact ⟨_, L, qs, rfl, R2.out, HGOT.out, R1.out, by omega, HNX.out⟩
    · intro u t w3 hwf hfu hlu hrg3 hlt3 hg3 hs3 hen
      have hro3 := hro.kept hg3 (.inr hir)
      have HRO := hideIt hro3
      have HRG := hideIt hrg3
      have HCO := hideIt (colV_step hcol hlu (by rw [hfu]; rfl))
      have HB3 : Hid (Below w.heap.size w w3) := hnx.grown hg3 (by omega) (fun k hk => by have := Option.some.inj hk; omega)
      have hltr : w.heap.size < w3.heap.size := by omega
      have hM3 : M < w3.heap.size := by omega
      have hqs : qs.length ≤ 60 := by omega
      have hll : L.length ≤ 3600 := by have := HGOT.out.len; omega
      have HLT := hideIt hlt3
      clear hro hrg hrg3 hro3 hcol hlu hlt3 hs3 hg3
      unfold Life.val at hen
      unfold Life.val
      by_cases hp : t.push = -1
      · have hp' : (t.push == -1) = true := by simp [hp]
        have HP := hideIt hp
        clear hp
        go_wp2_with (at_builtin; refine wpList_append_own _ rfl _ _ 74 rfl w.heap.size 77 i0 _ 2 16 Tryd.underlying74 hi hz0 hz1 hz2 rfl (by decide) _ _ _ rfl ((HRO.out.alloc _).alloc _) ⟨w3.heap.size + 1, 0, none⟩ 1 1 (Pr.list ⟨t.pop, t.pop⟩) rfl rfl ?c1 ?c2 ?c3 ?c4 ?c5 ?_)
        case c1 =>
          intro j v hj
          match j, hj with
          | 0, hj => simp [Pr.list] at hj; subst hj; first | (simp; done) | simp [Addr.add]
          | 1, hj => simp [Pr.list] at hj; subst hj; first | (simp; done) | simp [Addr.add]
          | m + 2, hj => simp [Pr.list] at hj
        case c2 => intro v hv; simp [Pr.list] at hv; rcases hv with rfl | rfl <;> rfl
        case c3 => unfold maxLen; omega
        case c4 => omega
        case c5 => first | omega | (simp; omega)
        · intro v' w5 hown5 hgrow hnil5
          have hrow5 : ∀ k, Value.ownBlock _ = some k → w.heap.size ≤ k := fun k hk => (HRO.out.lt k hk).1
          have hgall := ((World.grownBy_alloc w3 _ _).trans (World.grownBy_alloc _ _ _)).trans hgrow
          have hkM : some M ≠ Value.ownBlock _ := fun k => by have := hrow5 M k.symm; omega
          have R3 := hideIt (HRG.out.kept hgall hkM (Ne.symm hir))
          have R4 : Hid (w5.rangeLeft M w.heap.size < wr.rangeLeft M w.heap.size) := by
            show w5.rangeLeft M w.heap.size < wr.rangeLeft M w.heap.size
            rw [HRG.out.count hgall hkM (Ne.symm hir)]; exact HLT.out
          have R1 : Hid (w5.ownsRow w.heap.size 77 2 v' (L ++ [(⟨t.pop, t.pop⟩ : Pr)]).length (prCells (L ++ [(⟨t.pop, t.pop⟩ : Pr)]))) := by
            show w5.ownsRow w.heap.size 77 2 v' (L ++ [(⟨t.pop, t.pop⟩ : Pr)]).length (prCells (L ++ [(⟨t.pop, t.pop⟩ : Pr)]))
            rw [prCells_snoc, List.length_append]
            exact hown5
          have R2 : Hid (Below w.heap.size w w5) := HB3.out.grown hgall (by omega) (fun k hk => hrow5 k hk)
          have R5 := hideIt (HGOT.out.one (x := ⟨t.pop, t.pop⟩) hfu fun p => by unfold pcP; rw [if_pos rfl]; exact ⟨fun h => ⟨HP.out, h⟩, fun h => h.2⟩)
          have R6 : Hid ((qs ++ [u]).length + w5.rangeLeft M w.heap.size ≤ n) := by
            show (qs ++ [u]).length + w5.rangeLeft M w.heap.size ≤ n
            have := R4.out
            simp
            omega
          clear hown5 hgrow hgall hnil5 hkM
          go_wp2
          go_roundw
          case rel => exact ⟨_, qs ++ [u], _, R3.out, R1.out, HCO.out, R6.out, R5.out, R2.out⟩
          case measure => exact R4.out
      · have hp' : (t.push == -1) = false := by simp [hp]
        have HP := hideIt hp
        clear hp
        have R1 := hideIt (HGOT.out.skip hfu fun p hp => by unfold pcP at hp; rw [if_pos rfl] at hp; exact absurd hp.1 HP.out)
        have hg34 : w3.grownBy _ none := World.grownBy_alloc w3 (.cells #[.int .i64 t.push, .int .i64 t.pop, .int .i64 t.again] 90) none
        have HRG4 := hideIt (HRG.out.kept hg34 (by simp) (by simp))
        have HRO4 := hideIt (HRO.out.kept hg34 (Classical.em _))
        have HCNT := hideIt (show World.rangeLeft (w3.alloc (.cells #[.int .i64 t.push, .int .i64 t.pop, .int .i64 t.again] 90)) M w.heap.size < wr.rangeLeft M w.heap.size from by rw [HRG.out.count hg34 (by simp) (by simp)]; exact HLT.out)
        have R6 := hideIt (show (qs ++ [u]).length + World.rangeLeft (w3.alloc (.cells #[.int .i64 t.push, .int .i64 t.pop, .int .i64 t.again] 90)) M w.heap.size ≤ n from by have := HCNT.out; simp only [List.length_append, List.length_singleton]; omega)
        have R2 := hideIt (HB3.out.grown hg34 (by omega) (fun k hk => by cases hk))
        clear hg34
        go_wp2
        go_roundw
        case rel => exact ⟨_, qs ++ [u], L, HRG4.out, HRO4.out, HCO.out, R6.out, R1.out, R2.out⟩
        case measure => exact HCNT.out

set_option maxHeartbeats 2000000 in
theorem pairs2_any (l : List Opn) (f : Int → Option Life) (b off cap M n : Nat) (w : World) (hn : n ≤ 60) (hm : MapV Tryd.prog Life.val w M n f) :
    Calls Tryd.prog 31 #[.map (some M), .int .i64 2, .slice (some ⟨b, off, none⟩) l.length cap] w fun e w' => PairsT l f 2 w e w' := by
  have hM := hm.lt
  obtain ⟨i0, hi, hz0, hz1, hz2⟩ := info_parts info77
  have HM0 := hideIt hm
  clear hm
  go_enter Tryd.func31, Tryd.ntmps31
  go_wp2_with (at_range; refine wpList_range_v (mk := Life.val) _ Tryd.underlying3 rfl _ _ rfl _ Tryd.underlying72 _ _ _ rfl HM0.out ?_; intro w2 hr2 hg2 hs2 hc2)
  go_frame
  go_loopw [7] (fun v wr => ∃ (left : Int → Bool) (qs : List Int) (L : List Pr), RangeV Tryd.prog Life.val wr M w.heap.size n f left ∧ wr.ownsRow w.heap.size 77 2 v L.length (prCells L) ∧ ColV f left qs ∧ qs.length + wr.rangeLeft M w.heap.size ≤ n ∧ GotP l f 2 qs L ∧ Below w.heap.size w wr)
    (fun _ wr => wr.rangeLeft M w.heap.size)
  case atStart => exact ⟨_, [], [], hr2, World.ownsRow_nil _ _ _ _, colV_start f, by simpa using hc2, gotP_nil l f 2, (Below.refl _ _).grown hg2 (Nat.le_refl _) (fun k hk => by cases hk)⟩
  case round =>
    obtain ⟨left, qs, L, hrg, hro, hcol, hcnt, hgot, hnx⟩ := hrel
    have hir := rangeV_row hrg hro
    have hszr := hnx.size
    have hrl := hrg.ltr
    have hMr := hrg.map.lt
    have HGOT := hideIt hgot
    have HNX := hideIt hnx
    clear hgot
    go_wp2_with (at_next; refine wpList_next_v _ Tryd.underlying3 rfl _ rfl M w.heap.size n f left rfl hrg ?_ ?_)
    · intro hleft
      have R1 := hideIt (colV_end hcol hleft)
      have R2 := hideIt hro
      clear hro hrg hcol hir hleft
      go_wp2
      go_ret
      exact ⟨_, L, qs, rfl, R2.out, HGOT.out, R1.out, by omega, HNX.out⟩
    · intro u t w3 hwf hfu hlu hrg3 hlt3 hg3 hs3 hen
      have hro3 := hro.kept hg3 (.inr hir)
      have HRO := hideIt hro3
      have HRG := hideIt hrg3
      have HCO := hideIt (colV_step hcol hlu (by rw [hfu]; rfl))
      have HB3 : Hid (Below w.heap.size w w3) := hnx.grown hg3 (by omega) (fun k hk => by have := Option.some.inj hk; omega)
      have hltr : w.heap.size < w3.heap.size := by omega
      have hM3 : M < w3.heap.size := by omega
      have hqs : qs.length ≤ 60 := by omega
      have hll : L.length ≤ 3600 := by have := HGOT.out.len; omega
      have HLT := hideIt hlt3
      clear hro hrg hrg3 hro3 hcol hlu hlt3 hs3 hg3
      unfold Life.val at hen
      unfold Life.val
      by_cases hp : t.again = -1
      · have hp' : (t.again != -1) = false := by simp [hp]
        have HP := hideIt hp
        clear hp
        have R1 := hideIt (HGOT.out.skip hfu fun p hp => by unfold pcP at hp; rw [if_neg (by decide), if_pos rfl] at hp; exact absurd HP.out hp.1)
        have hg34 : w3.grownBy _ none := World.grownBy_alloc w3 (.cells #[.int .i64 t.push, .int .i64 t.pop, .int .i64 t.again] 90) none
        have HRG4 := hideIt (HRG.out.kept hg34 (by simp) (by simp))
        have HRO4 := hideIt (HRO.out.kept hg34 (Classical.em _))
        have HCNT := hideIt (show World.rangeLeft (w3.alloc (.cells #[.int .i64 t.push, .int .i64 t.pop, .int .i64 t.again] 90)) M w.heap.size < wr.rangeLeft M w.heap.size from by rw [HRG.out.count hg34 (by simp) (by simp)]; exact HLT.out)
        have R6 := hideIt (show (qs ++ [u]).length + World.rangeLeft (w3.alloc (.cells #[.int .i64 t.push, .int .i64 t.pop, .int .i64 t.again] 90)) M w.heap.size ≤ n from by have := HCNT.out; simp only [List.length_append, List.length_singleton]; omega)
        have R2 := hideIt (HB3.out.grown hg34 (by omega) (fun k hk => by cases hk))
        clear hg34
        go_wp2
        go_roundw
        case rel => exact ⟨_, qs ++ [u], L, HRG4.out, HRO4.out, HCO.out, R6.out, R1.out, R2.out⟩
        case measure => exact HCNT.out
      · have hp' : (t.again != -1) = true := by simp [hp]
        have HP := hideIt hp
        clear hp
        go_wp2_with (at_builtin; refine wpList_append_own _ rfl _ _ 74 rfl w.heap.size 77 i0 _ 2 16 Tryd.underlying74 hi hz0 hz1 hz2 rfl (by decide) _ _ _ rfl ((HRO.out.alloc _).alloc _) ⟨w3.heap.size + 1, 0, none⟩ 1 1 (Pr.list ⟨t.pop, t.again⟩) rfl rfl ?c1 ?c2 ?c3 ?c4 ?c5 ?_)
        case c1 =>
          intro j v hj
          match j, hj with
          | 0, hj => simp [Pr.list] at hj; subst hj; first | (simp; done) | simp [Addr.add]
          | 1, hj => simp [Pr.list] at hj; subst hj; first | (simp; done) | simp [Addr.add]
          | m + 2, hj => simp [Pr.list] at hj
        case c2 => intro v hv; simp [Pr.list] at hv; rcases hv with rfl | rfl <;> rfl
        case c3 => unfold maxLen; omega
        case c4 => omega
        case c5 => first | omega | (simp; omega)
        · intro v' w5 hown5 hgrow hnil5
          have hrow5 : ∀ k, Value.ownBlock _ = some k → w.heap.size ≤ k := fun k hk => (HRO.out.lt k hk).1
          have hgall := ((World.grownBy_alloc w3 _ _).trans (World.grownBy_alloc _ _ _)).trans hgrow
          have hkM : some M ≠ Value.ownBlock _ := fun k => by have := hrow5 M k.symm; omega
          have R3 := hideIt (HRG.out.kept hgall hkM (Ne.symm hir))
          have R4 : Hid (w5.rangeLeft M w.heap.size < wr.rangeLeft M w.heap.size) := by
            show w5.rangeLeft M w.heap.size < wr.rangeLeft M w.heap.size
            rw [HRG.out.count hgall hkM (Ne.symm hir)]; exact HLT.out
          have R1 : Hid (w5.ownsRow w.heap.size 77 2 v' (L ++ [(⟨t.pop, t.again⟩ : Pr)]).length (prCells (L ++ [(⟨t.pop, t.again⟩ : Pr)]))) := by
            show w5.ownsRow w.heap.size 77 2 v' (L ++ [(⟨t.pop, t.again⟩ : Pr)]).length (prCells (L ++ [(⟨t.pop, t.again⟩ : Pr)]))
            rw [prCells_snoc, List.length_append]
            exact hown5
          have R2 : Hid (Below w.heap.size w w5) := HB3.out.grown hgall (by omega) (fun k hk => hrow5 k hk)
          have R5 := hideIt (HGOT.out.one (x := ⟨t.pop, t.again⟩) hfu fun p => by unfold pcP; rw [if_neg (by decide), if_pos rfl]; exact ⟨fun h => ⟨HP.out, h⟩, fun h => h.2⟩)
          have R6 : Hid ((qs ++ [u]).length + w5.rangeLeft M w.heap.size ≤ n) := by
            show (qs ++ [u]).length + w5.rangeLeft M w.heap.size ≤ n
            have := R4.out
            simp
            omega
          clear hown5 hgrow hgall hnil5 hkM
          go_wp2
          go_roundw
          case rel => exact ⟨_, qs ++ [u], _, R3.out, R1.out, HCO.out, R6.out, R5.out, R2.out⟩
          case measure => exact R4.out

set_option maxHeartbeats 2000000 in
theorem pairs3_any (l : List Opn) (f : Int → Option Life) (b off cap M n : Nat) (w : World) (hn : n ≤ 60) (hm : MapV Tryd.prog Life.val w M n f) (hl : OpsAt w b off l) (hb : b < w.heap.size) (hnum : ∀ v t, f v = some t → (t.pop = -1 ∨ NumOf l t.pop) ∧ NumOf l t.push) :
    Calls Tryd.prog 31 #[.map (some M), .int .i64 3, .slice (some ⟨b, off, none⟩) l.length cap] w fun e w' => PairsT l f 3 w e w' := by
  have hM := hm.lt
  obtain ⟨i0, hi, hz0, hz1, hz2⟩ := info_parts info77
  have HM0 := hideIt hm
  have HO := hideIt hl
  have HX : Hid (∀ (u : Int) (t : Life) (W : World), f u = some t → Below w.heap.size w W → Calls Tryd.prog 45 #[t.val, .slice (some ⟨b, off, none⟩) l.length cap] W fun e w' => e = .returned (.bool (earlyB l t)) ∧ Below W.heap.size W w') := fun u t W ht hW =>
    early_any l t b off cap W (HO.out.below hb hW) (Nat.lt_of_lt_of_le hb hW.size) (hnum u t ht).1 (hnum u t ht).2
  unfold Life.val at HX
  clear hl hnum
  clear hm
  go_enter Tryd.func31, Tryd.ntmps31
  go_wp2_with (at_range; refine wpList_range_v (mk := Life.val) _ Tryd.underlying3 rfl _ _ rfl _ Tryd.underlying72 _ _ _ rfl HM0.out ?_; intro w2 hr2 hg2 hs2 hc2)
  go_frame
  go_loopw [7] (fun v wr => ∃ (left : Int → Bool) (qs : List Int) (L : List Pr), RangeV Tryd.prog Life.val wr M w.heap.size n f left ∧ wr.ownsRow w.heap.size 77 2 v L.length (prCells L) ∧ ColV f left qs ∧ qs.length + wr.rangeLeft M w.heap.size ≤ n ∧ GotP l f 3 qs L ∧ Below w.heap.size w wr)
    (fun _ wr => wr.rangeLeft M w.heap.size)
  case atStart => exact ⟨_, [], [], hr2, World.ownsRow_nil _ _ _ _, colV_start f, by simpa using hc2, gotP_nil l f 3, (Below.refl _ _).grown hg2 (Nat.le_refl _) (fun k hk => by cases hk)⟩
  case round =>
    obtain ⟨left, qs, L, hrg, hro, hcol, hcnt, hgot, hnx⟩ := hrel
    have hir := rangeV_row hrg hro
    have hszr := hnx.size
    have hrl := hrg.ltr
    have hMr := hrg.map.lt
    have HGOT := hideIt hgot
    have HNX := hideIt hnx
    clear hgot
    go_wp2_with (at_next; refine wpList_next_v _ Tryd.underlying3 rfl _ rfl M w.heap.size n f left rfl hrg ?_ ?_)
    · intro hleft
      have R1 := hideIt (colV_end hcol hleft)
      have R2 := hideIt hro
      clear hro hrg hcol hir hleft
      go_wp2
      go_ret
      exact ⟨_, L, qs, rfl, R2.out, HGOT.out, R1.out, by omega, HNX.out⟩
    · intro u t w3 hwf hfu hlu hrg3 hlt3 hg3 hs3 hen
      have hro3 := hro.kept hg3 (.inr hir)
      have HRO := hideIt hro3
      have HRG := hideIt hrg3
      have HCO := hideIt (colV_step hcol hlu (by rw [hfu]; rfl))
      have HB3 : Hid (Below w.heap.size w w3) := hnx.grown hg3 (by omega) (fun k hk => by have := Option.some.inj hk; omega)
      have hltr : w.heap.size < w3.heap.size := by omega
      have hM3 : M < w3.heap.size := by omega
      have hqs : qs.length ≤ 60 := by omega
      have hll : L.length ≤ 3600 := by have := HGOT.out.len; omega
      have HLT := hideIt hlt3
      clear hro hrg hrg3 hro3 hcol hlu hlt3 hs3 hg3
      unfold Life.val at hen
      unfold Life.val
      have HC := hideIt (fun W hW => HX.out u t W hfu hW)
      obtain ⟨cb, HCB⟩ : ∃ cb, Hid (earlyB l t = cb) := ⟨_, hideIt rfl⟩
      rw [HCB.out] at HC
      go_wp2_with fail
      refine (HC.out _ (belA HB3.out _)).mono ?_
      rintro e w4 ⟨rfl, hb4⟩
      have hg4 : w3.grownBy w4 none := (World.grownBy_alloc w3 _ _).trans (grown_below hb4)
      have hsz4 := hg4.size
      have x0 : w4.cell? ⟨w3.heap.size, 0, none⟩ = some (.int .i64 t.push) := (hb4.cell (p := ⟨w3.heap.size, 0, none⟩) (by simp)).trans (by simp)
      have x1 : w4.cell? ⟨w3.heap.size, 1, none⟩ = some (.int .i64 t.pop) := (hb4.cell (p := ⟨w3.heap.size, 1, none⟩) (by simp)).trans (by simp)
      clear hb4
      cases cb
      · have R1 := hideIt (HGOT.out.skip hfu fun p hp => by unfold pcP at hp; rw [if_neg (by decide), if_neg (by decide), if_pos rfl, HCB.out] at hp; cases hp.1)
        have hg34 : w3.grownBy _ none := hg4
        have HRG4 := hideIt (HRG.out.kept hg34 (by simp) (by simp))
        have HRO4 := hideIt (HRO.out.kept hg34 (Classical.em _))
        have HCNT := hideIt (show World.rangeLeft w4 M w.heap.size < wr.rangeLeft M w.heap.size from by rw [HRG.out.count hg34 (by simp) (by simp)]; exact HLT.out)
        have R6 := hideIt (show (qs ++ [u]).length + World.rangeLeft w4 M w.heap.size ≤ n from by have := HCNT.out; simp only [List.length_append, List.length_singleton]; omega)
        have R2 := hideIt (HB3.out.grown hg34 (by omega) (fun k hk => by cases hk))
        clear hg34
        go_wp2
        go_roundw
        case rel => exact ⟨_, qs ++ [u], L, HRG4.out, HRO4.out, HCO.out, R6.out, R1.out, R2.out⟩
        case measure => exact HCNT.out
      · have HRO4 := hideIt (HRO.out.kept hg4 (Classical.em _))
        have HG4 := hideIt hg4
        clear hg4
        go_wp2_with (at_builtin; refine wpList_append_own _ rfl _ _ 74 rfl w.heap.size 77 i0 _ 2 16 Tryd.underlying74 hi hz0 hz1 hz2 rfl (by decide) _ _ _ rfl (HRO4.out.alloc _) ⟨w4.heap.size, 0, none⟩ 1 1 (Pr.list ⟨t.push, t.pop⟩) rfl rfl ?c1 ?c2 ?c3 ?c4 ?c5 ?_)
        case c1 =>
          intro j v hj
          match j, hj with
          | 0, hj => simp [Pr.list] at hj; subst hj; first | (simp; done) | simp [Addr.add]
          | 1, hj => simp [Pr.list] at hj; subst hj; first | (simp; done) | simp [Addr.add]
          | m + 2, hj => simp [Pr.list] at hj
        case c2 => intro v hv; simp [Pr.list] at hv; rcases hv with rfl | rfl <;> rfl
        case c3 => unfold maxLen; omega
        case c4 => omega
        case c5 => first | omega | (simp; omega)
        · intro v' w5 hown5 hgrow hnil5
          have hrow5 : ∀ k, Value.ownBlock _ = some k → w.heap.size ≤ k := fun k hk => (HRO.out.lt k hk).1
          have hgall := ((HG4.out.but _).trans (World.grownBy_alloc _ _ _)).trans hgrow
          have hkM : some M ≠ Value.ownBlock _ := fun k => by have := hrow5 M k.symm; omega
          have R3 := hideIt (HRG.out.kept hgall hkM (Ne.symm hir))
          have R4 : Hid (w5.rangeLeft M w.heap.size < wr.rangeLeft M w.heap.size) := by
            show w5.rangeLeft M w.heap.size < wr.rangeLeft M w.heap.size
            rw [HRG.out.count hgall hkM (Ne.symm hir)]; exact HLT.out
          have R1 : Hid (w5.ownsRow w.heap.size 77 2 v' (L ++ [(⟨t.push, t.pop⟩ : Pr)]).length (prCells (L ++ [(⟨t.push, t.pop⟩ : Pr)]))) := by
            show w5.ownsRow w.heap.size 77 2 v' (L ++ [(⟨t.push, t.pop⟩ : Pr)]).length (prCells (L ++ [(⟨t.push, t.pop⟩ : Pr)]))
            rw [prCells_snoc, List.length_append]
            exact hown5
          have R2 : Hid (Below w.heap.size w w5) := HB3.out.grown hgall (by omega) (fun k hk => hrow5 k hk)
          have R5 := hideIt (HGOT.out.one (x := ⟨t.push, t.pop⟩) hfu fun p => by unfold pcP; rw [if_neg (by decide), if_neg (by decide), if_pos rfl]; exact ⟨fun h => ⟨HCB.out, h⟩, fun h => h.2⟩)
          have R6 : Hid ((qs ++ [u]).length + w5.rangeLeft M w.heap.size ≤ n) := by
            show (qs ++ [u]).length + w5.rangeLeft M w.heap.size ≤ n
            have := R4.out
            simp
            omega
          clear hown5 hgrow hgall hnil5 hkM
          go_wp2
          go_roundw
          case rel => exact ⟨_, qs ++ [u], _, R3.out, R1.out, HCO.out, R6.out, R5.out, R2.out⟩
          case measure => exact R4.out

set_option maxHeartbeats 2000000 in
theorem pairs4_any (l : List Opn) (f : Int → Option Life) (b off cap M n : Nat) (w : World) (hn : n ≤ 60) (hm : MapV Tryd.prog Life.val w M n f) (hl : OpsAt w b off l) (hb : b < w.heap.size) (hnum : ∀ v t, f v = some t → (t.pop = -1 ∨ NumOf l t.pop) ∧ NumOf l t.push) :
    Calls Tryd.prog 31 #[.map (some M), .int .i64 4, .slice (some ⟨b, off, none⟩) l.length cap] w fun e w' => PairsT l f 4 w e w' := by
  have hM := hm.lt
  obtain ⟨i0, hi, hz0, hz1, hz2⟩ := info_parts info77
  have HM0 := hideIt hm
  have HO := hideIt hl
  have HX : Hid (∀ (u : Int) (t : Life) (W : World), f u = some t → Below w.heap.size w W → Calls Tryd.prog 46 #[.map (some M), t.val, .slice (some ⟨b, off, none⟩) l.length cap] W fun e w' => ∃ v L qs, e = .returned v ∧ w'.ownsRow W.heap.size 77 2 v L.length (prCells L) ∧ GotX l f t qs L ∧ (∀ q, q ∈ qs ↔ (f q).isSome = true) ∧ qs.length ≤ 60 ∧ Below W.heap.size W w') := fun u t W ht hW =>
    crossedBy_any l f t b off cap M n W hn (hm.below hW hM) (HO.out.below hb hW) (Nat.lt_of_lt_of_le hb hW.size) hnum (hnum u t ht)
  unfold Life.val at HX
  clear hl hnum
  clear hm
  go_enter Tryd.func31, Tryd.ntmps31
  go_wp2_with (at_range; refine wpList_range_v (mk := Life.val) _ Tryd.underlying3 rfl _ _ rfl _ Tryd.underlying72 _ _ _ rfl HM0.out ?_; intro w2 hr2 hg2 hs2 hc2)
  go_frame
  go_loopw [7] (fun v wr => ∃ (left : Int → Bool) (qs : List Int) (L : List Pr), RangeV Tryd.prog Life.val wr M w.heap.size n f left ∧ wr.ownsRow w.heap.size 77 2 v L.length (prCells L) ∧ ColV f left qs ∧ qs.length + wr.rangeLeft M w.heap.size ≤ n ∧ GotP l f 4 qs L ∧ Below w.heap.size w wr)
    (fun _ wr => wr.rangeLeft M w.heap.size)
  case atStart => exact ⟨_, [], [], hr2, World.ownsRow_nil _ _ _ _, colV_start f, by simpa using hc2, gotP_nil l f 4, (Below.refl _ _).grown hg2 (Nat.le_refl _) (fun k hk => by cases hk)⟩
  case round =>
    obtain ⟨left, qs, L, hrg, hro, hcol, hcnt, hgot, hnx⟩ := hrel
    have hir := rangeV_row hrg hro
    have hszr := hnx.size
    have hrl := hrg.ltr
    have hMr := hrg.map.lt
    have HGOT := hideIt hgot
    have HNX := hideIt hnx
    clear hgot
    go_wp2_with (at_next; refine wpList_next_v _ Tryd.underlying3 rfl _ rfl M w.heap.size n f left rfl hrg ?_ ?_)
    · intro hleft
      have R1 := hideIt (colV_end hcol hleft)
      have R2 := hideIt hro
      clear hro hrg hcol hir hleft
      go_wp2
      go_ret
      exact ⟨_, L, qs, rfl, R2.out, HGOT.out, R1.out, by omega, HNX.out⟩
    · intro u t w3 hwf hfu hlu hrg3 hlt3 hg3 hs3 hen
      have hro3 := hro.kept hg3 (.inr hir)
      have HRO := hideIt hro3
      have HRG := hideIt hrg3
      have HCO := hideIt (colV_step hcol hlu (by rw [hfu]; rfl))
      have HB3 : Hid (Below w.heap.size w w3) := hnx.grown hg3 (by omega) (fun k hk => by have := Option.some.inj hk; omega)
      have hltr : w.heap.size < w3.heap.size := by omega
      have hM3 : M < w3.heap.size := by omega
      have hqs : qs.length ≤ 60 := by omega
      have hll : L.length ≤ 3600 := by have := HGOT.out.len; omega
      have HLT := hideIt hlt3
      clear hro hrg hrg3 hro3 hcol hlu hlt3 hs3 hg3
      unfold Life.val at hen
      unfold Life.val
      have HC := hideIt (fun W hW => HX.out u t W hfu hW)
      go_wp2_with fail
      refine (HC.out _ (belA HB3.out _)).mono ?_
      rintro e w4 ⟨v4, L4, qs4, rfl, ho4, hx4, hq4, hl4, hb4⟩
      have hg4 : w3.grownBy w4 none := (World.grownBy_alloc w3 _ _).trans (grown_below hb4)
      have hsz4 := hg4.size
      have HG4 := hideIt hg4
      have HRO4 := hideIt (HRO.out.kept hg4 (Classical.em _))
      have hL4 : L4.length ≤ 60 := Nat.le_trans hx4.len hl4
      have R5 := hideIt (HGOT.out.add (M := L4) hfu (fun p => by
        unfold pcP
        rw [if_neg (by decide), if_neg (by decide), if_neg (by decide), hx4.mem p]
        constructor
        · rintro ⟨v, s, _, r⟩; exact ⟨v, s, r⟩
        · rintro ⟨v, s, hs, r⟩; exact ⟨v, s, (hq4 v).2 (by rw [hs]; rfl), hs, r⟩) hL4)
      clear hg4 hx4 hq4 hb4
      rcases ho4.2 with ⟨rfl, h0⟩ | ⟨g4, cap4, cur4, rfl, hb4, hh4, _⟩
      · obtain rfl : L4 = [] := List.length_eq_zero_iff.1 h0
        have HRG4 := hideIt (HRG.out.kept HG4.out (by simp) (by simp))
        have HCNT : Hid (w4.rangeLeft M w.heap.size < wr.rangeLeft M w.heap.size) := by
          show w4.rangeLeft M w.heap.size < wr.rangeLeft M w.heap.size
          rw [HRG.out.count HG4.out (by simp) (by simp)]; exact HLT.out
        have R6 : Hid ((qs ++ [u]).length + w4.rangeLeft M w.heap.size ≤ n) := by
          show (qs ++ [u]).length + w4.rangeLeft M w.heap.size ≤ n
          have := HCNT.out
          simp
          omega
        have R2 := hideIt (HB3.out.grown HG4.out (by omega) (fun k hk => by cases hk))
        rw [List.append_nil] at R5
        clear ho4
        go_wp2_with (at_builtin; refine wpList_append_own_none rfl _ _ 74 rfl w.heap.size 77 i0 2 Tryd.underlying74 hi _ _ _ rfl HRO4.out rfl ?_)
        go_roundw
        case rel => exact ⟨_, qs ++ [u], L, HRG4.out, HRO4.out, HCO.out, R6.out, R5.out, R2.out⟩
        case measure => exact HCNT.out
      · have HO4 := hideIt ho4
        clear ho4 hh4
        go_wp2_with (at_builtin; refine wpList_append_own _ rfl _ _ 74 rfl w.heap.size 77 i0 _ 2 16 Tryd.underlying74 hi hz0 hz1 hz2 rfl (by decide) _ _ _ rfl HRO4.out ⟨g4, 0, none⟩ L4.length cap4 (prCells L4) rfl (prCells_len L4) ?c1 (prCells_one L4) ?c3 ?c4 ?c5 ?_)
        case c1 =>
          intro j v hj
          have hj2 : j < L4.length * 2 := by rw [← prCells_len]; exact (List.getElem?_eq_some_iff.1 hj).1
          rw [← hj, ← HO4.out.cellAt j hj2]
          rw [show (Addr.add ⟨g4, 0, none⟩ j) = ⟨g4, j, none⟩ from by simp [Addr.add]; exact fun h => h.symm]
        case c3 => unfold maxLen; omega
        case c4 => omega
        case c5 => omega
        · intro v' w5 hown5 hgrow hnil5
          have hrow5 : ∀ k, Value.ownBlock _ = some k → w.heap.size ≤ k := fun k hk => (HRO.out.lt k hk).1
          have hgall := (HG4.out.but _).trans hgrow
          have hkM : some M ≠ Value.ownBlock _ := fun k => by have := hrow5 M k.symm; omega
          have R3 := hideIt (HRG.out.kept hgall hkM (Ne.symm hir))
          have R4 : Hid (w5.rangeLeft M w.heap.size < wr.rangeLeft M w.heap.size) := by
            show w5.rangeLeft M w.heap.size < wr.rangeLeft M w.heap.size
            rw [HRG.out.count hgall hkM (Ne.symm hir)]; exact HLT.out
          have R1 : Hid (w5.ownsRow w.heap.size 77 2 v' (L ++ L4).length (prCells (L ++ L4))) := by
            show w5.ownsRow w.heap.size 77 2 v' (L ++ L4).length (prCells (L ++ L4))
            rw [prCells_app, List.length_append]
            exact hown5
          have R2 : Hid (Below w.heap.size w w5) := HB3.out.grown hgall (by omega) (fun k hk => hrow5 k hk)
          have R6 : Hid ((qs ++ [u]).length + w5.rangeLeft M w.heap.size ≤ n) := by
            show (qs ++ [u]).length + w5.rangeLeft M w.heap.size ≤ n
            have := R4.out
            simp
            omega
          clear hown5 hgrow hgall hnil5 hkM
          go_wp2
          go_roundw
          case rel => exact ⟨_, qs ++ [u], _, R3.out, R1.out, HCO.out, R6.out, R5.out, R2.out⟩
          case measure => exact R4.out

end Go.Proofs.YtelndpbkheoeaaaDoor

namespace Go.Proofs.YtelndpbkheoeaaaDoor
open Go.RowKit

set_option maxHeartbeats 1000000 in
theorem least_any (L : List Pr) (g cap : Nat) (w : World) (hlen : L.length ≤ 10000) (h0 : 0 < L.length) (hl : PrsAt w g 0 L) (hg : g < w.heap.size) :
    Calls Tryd.prog 32 #[.slice (some ⟨g, 0, none⟩) L.length cap] w fun e w' => ∃ p : Pr, e = .returned p.agg ∧ p ∈ L ∧ (∀ q ∈ L, leP p q) ∧ Below w.heap.size w w' := by
  have hbl := belA (Below.refl w.heap.size w) (.cells #[.int .i64 0, .int .i64 0] 77)
  have HC := hideIt (minFunc_any L g cap (w.alloc (.cells #[.int .i64 0, .int .i64 0] 77)) hlen h0 (hl.below hg hbl) (Nat.lt_of_lt_of_le hg hbl.size))
  clear hl
  go_enter Tryd.func32, Tryd.ntmps32
  go_wp2_with fail
  refine HC.out.mono ?_
  rintro e w1 ⟨p, rfl, hp, hle, hb1⟩
  have HP := hideIt hp
  have HLE := hideIt hle
  have hm0 : w1.heap[w.heap.size]? = some (.cells #[.int .i64 0, .int .i64 0] 77) := (hb1.block w.heap.size (by simp)).trans (heap_alloc_new w _)
  have z0 : w1.cell? ⟨w.heap.size, 0, none⟩ = some (.int .i64 0) := by simp [World.cell?, hm0]
  have z1 : w1.cell? ⟨w.heap.size, 1, none⟩ = some (.int .i64 0) := by simp [World.cell?, hm0]
  have y0 : ∀ i, w1.frozen? ⟨w.heap.size, i, none⟩ = false := fun i => frozen_of_row w1 _ i _ 77 hm0
  have HM3 := hideIt (pair_set hm0 (.int .i64 p.a) (.int .i64 p.b))
  have HB := hideIt (pair_below (b := w.heap.size) (x' := .int .i64 p.a) (y' := .int .i64 p.b) (hbl.trans (hb1.mono hbl.size)) (Nat.le_refl _))
  clear hp hle hb1 hm0 hbl
  unfold Pr.agg
  go_wp2
  refine bodyPost_ret (results_cell_row rfl _ _ _ 77 _ _ _ rfl HM3.out Tryd.underlying77 rfl (by kernel_rfl)) rfl ?_
  exact ⟨p, rfl, HP.out, HLE.out, HB.out⟩

/-- Of a code what is gathered is what can't be by the document, and its least is the least. -/
theorem gotP_pairP {l : List Opn} {f : Int → Option Life} {code : Int} {qs : List Int} {L : List Pr} (h : GotP l f code qs L) (hq : ∀ q, q ∈ qs ↔ (f q).isSome = true) (a b : Int) : (⟨a, b⟩ : Pr) ∈ L ↔ pairP l f code a b := by
  have inq : ∀ v s, f v = some s → v ∈ qs := fun v s hs => (hq v).2 (by rw [hs]; rfl)
  rw [h.mem]
  unfold pairP pcP
  split
  · constructor
    · rintro ⟨v, s, _, hs, h1, h2⟩; exact ⟨v, s, hs, h1, congrArg Pr.a h2, congrArg Pr.b h2⟩
    · rintro ⟨v, s, hs, h1, rfl, rfl⟩; exact ⟨v, s, inq v s hs, hs, h1, rfl⟩
  · split
    · constructor
      · rintro ⟨v, s, _, hs, h1, h2⟩; exact ⟨v, s, hs, h1, congrArg Pr.a h2, congrArg Pr.b h2⟩
      · rintro ⟨v, s, hs, h1, rfl, rfl⟩; exact ⟨v, s, inq v s hs, hs, h1, rfl⟩
    · split
      · constructor
        · rintro ⟨v, s, _, hs, h1, h2⟩; exact ⟨v, s, hs, h1, congrArg Pr.a h2, congrArg Pr.b h2⟩
        · rintro ⟨v, s, hs, h1, rfl, rfl⟩; exact ⟨v, s, inq v s hs, hs, h1, rfl⟩
      · constructor
        · rintro ⟨v, s, _, hs, u, t, ht, h1, h2⟩; exact ⟨v, s, u, t, hs, ht, h1, congrArg Pr.a h2, congrArg Pr.b h2⟩
        · rintro ⟨v, s, u, t, hs, ht, h1, rfl, rfl⟩; exact ⟨v, s, inq v s hs, hs, u, t, ht, h1, rfl⟩

theorem noBad_of {l : List Opn} (ok : QOk l) {code : Int} (h1 : 1 ≤ code) (h4 : code ≤ 4) (hb : ∀ c, 1 ≤ c → c < code → noBad l c) {qs : List Int} (h : GotP l (lvs l l.length) code qs []) (hq : ∀ q, q ∈ qs ↔ (lvs l l.length q).isSome = true) : noBad l code := fun i k hi hk hbad => by
  obtain ⟨a, b, hp, _⟩ := bad_pair ok h1 h4 hb hi hk hbad
  have := (gotP_pairP h hq a b).2 hp
  cases this

theorem finds_of {l : List Opn} (ok : QOk l) {code : Int} (h1 : 1 ≤ code) (h4 : code ≤ 4) (hb : ∀ c, 1 ≤ c → c < code → noBad l c) {qs : List Int} {L : List Pr} {p : Pr} (h : GotP l (lvs l l.length) code qs L) (hq : ∀ q, q ∈ qs ↔ (lvs l l.length q).isSome = true) (hp : p ∈ L) (hle : ∀ q ∈ L, leP p q) : FindsT l code p.a p.b := by
  obtain ⟨i, k, hi, hk, ea, eb, hbad⟩ := pair_bad ok h1 h4 hb ((gotP_pairP h hq p.a p.b).1 hp)
  refine .inr ⟨h1, h4, hb, i, k, hi, hk, ea, eb, hbad, fun i' k' hi' hk' hbad' => ?_⟩
  obtain ⟨a', b', hp', hlex⟩ := bad_pair ok h1 h4 hb hi' hk' hbad'
  have := hle ⟨a', b'⟩ ((gotP_pairP h hq a' b').2 hp')
  unfold leP at this
  unfold lexLe at hlex ⊢
  simp only at this
  rw [← ea, ← eb]
  omega

theorem lives_num {l : List Opn} (ok : QOk l) (h1 : noBad l 1) : ∀ v t, lvs l l.length v = some t → (t.pop = -1 ∨ NumOf l t.pop) ∧ NumOf l t.push := fun v t h => by
  have L := life_of ok h
  refine ⟨?_, ?_⟩
  · rcases L.pop with ⟨e, _⟩ | ⟨i, hi, e, _⟩
    · exact .inl e
    · exact .inr ⟨i, hi, e⟩
  · rcases L.push with ⟨_, hn⟩ | ⟨i, hi, e, _⟩
    · obtain ⟨i, hi, e⟩ := lvs_none _ _ _ h
      rcases ok.kind i hi with hd | hd
      · exact absurd ⟨hd, by rw [← e]; unfold valQ; rw [if_neg (by omega)]⟩ (hn i hi)
      · refine absurd ?_ (h1 i i hi hi)
        unfold badP
        rw [if_pos rfl]
        have : (opZ l i).r = v := by rw [← e]; unfold valQ; rw [if_pos hd]
        exact ⟨rfl, hd, by rw [this]; exact hn⟩
    · exact ⟨i, hi, e⟩

theorem prsAt_of {w : World} {base g cap : Nat} {L : List Pr} (h : w.ownsRow base 77 2 (.slice (some ⟨g, 0, none⟩) L.length cap) L.length (prCells L)) : PrsAt w g 0 L := fun i hi => by
  have h0 := h.cellAt (i * 2 + 0) (by omega)
  have h1 := h.cellAt (i * 2 + 1) (by omega)
  rw [prCells_get L i 0 hi (by decide)] at h0
  rw [prCells_get L i 1 hi (by decide)] at h1
  refine ⟨?_, ?_⟩
  · rw [Nat.zero_add]; simpa [Pr.list] using h0
  · rw [Nat.zero_add]; simpa [Pr.list] using h1

/-- What Finds tells. -/
def FnTold (l : List Opn) (w : World) (e : Ending) (w' : World) : Prop :=
  ∃ n c a b, e = .returned (.tuple #[.int .i64 c, .int .i64 a, .int .i64 b, toldV n]) ∧ CTold qFormB 9 l n ∧ (n = 0 → FindsT l c a b) ∧ (n ≠ 0 → c = 0 ∧ a = 0 ∧ b = 0) ∧ Below w.heap.size w w'

theorem pairs_all {l : List Opn} (ok : QOk l) {b off cap M n : Nat} {w : World} (hn : n ≤ 60) (hm : MapV Tryd.prog Life.val w M n (lvs l l.length)) (hl : OpsAt w b off l) (hb : b < w.heap.size) {c : Nat} (h1 : 1 ≤ c) (h4 : c ≤ 4) (hbad : ∀ d : Int, 1 ≤ d → d < c → noBad l d) :
    Calls Tryd.prog 31 #[.map (some M), .int .i64 c, .slice (some ⟨b, off, none⟩) l.length cap] w fun e w' => PairsT l (lvs l l.length) c w e w' := by
  have hc : c = 1 ∨ c = 2 ∨ c = 3 ∨ c = 4 := by omega
  rcases hc with rfl | rfl | rfl | rfl
  · exact pairs1_any l _ b off cap M n w hn hm
  · exact pairs2_any l _ b off cap M n w hn hm
  · exact pairs3_any l _ b off cap M n w hn hm hl hb (lives_num ok (hbad 1 (by decide) (by decide)))
  · exact pairs4_any l _ b off cap M n w hn hm hl hb (lives_num ok (hbad 1 (by decide) (by decide)))

set_option maxHeartbeats 2000000 in
theorem finds_some (l : List Opn) (b off cap : Nat) (w : World) (hlen : l.length ≤ 60) (hcap : l.length ≤ cap) (hl : OpsAt w b off l) (hb : b < w.heap.size) :
    Calls Tryd.prog 16 #[.slice (some ⟨b, off, none⟩) l.length cap] w fun e w' => FnTold l w e w' := by
  have HL := hideIt hl
  have HC := hideIt (qCheck_any l (some ⟨b, off, none⟩) cap w hlen hcap (.inr ⟨b, off, rfl, hb, hl⟩))
  clear hl
  go_enter Tryd.func16, Tryd.ntmps16
  go_wp2_with fail
  refine HC.out.mono ?_
  rintro e w1 ⟨n, rfl, ht, hb1⟩
  have HB1 := hideIt hb1
  have HCT := hideIt ht
  clear hb1 ht HC
  by_cases hn : n = 0
  · subst hn
    have ok := hideIt (qOk_of HCT.out)
    have HT := hideIt HCT.out.zero.1
    have HL1 := hideIt (HL.out.below hb HB1.out)
    have hb1 : b < w1.heap.size := Nat.lt_of_lt_of_le hb HB1.out.size
    have HV := hideIt (lives_any l (some ⟨b, off, none⟩) cap w1 hlen (.inr ⟨b, off, rfl, hb1, HL1.out⟩) HT.out)
    rw [show toldV 0 = .nilIface from by simp [toldV]]
    go_wp2_with fail
    refine HV.out.mono ?_
    rintro e w2 ⟨M, rfl, hM1, hm2, hb2⟩
    have HM2 := hideIt hm2
    have HB2 := hideIt hb2
    have hMlt := hm2.lt
    clear hm2 hb2 HV
    go_wp2
    go_loopw [2] (fun i wr => ∃ k : Nat, 1 ≤ k ∧ k ≤ 5 ∧ i = .int .i64 k ∧ (∀ d : Int, 1 ≤ d → d < k → noBad l d) ∧ Below w2.heap.size w2 wr) (fun i _ => 6 - (intOf i).toNat)
    case atStart => exact ⟨1, by omega, by omega, rfl, fun d h1 h2 => absurd h2 (by omega), Below.refl _ _⟩
    case round =>
      obtain ⟨k, hk1, hk5, rfl, hbad, hnx⟩ := hrel
      have HBAD := hideIt hbad
      have HNX := hideIt hnx
      have HBW := hideIt (HB1.out.trans ((HB2.out.trans (hnx.mono HB2.out.size)).mono HB1.out.size))
      clear hbad
      by_cases hk : k ≤ 4
      · have hkI : (k : Int) ≤ 4 := by omega
        have HP := hideIt (pairs_all ok.out (cap := cap) hlen (HM2.out.below hnx hMlt) (HL.out.below hb HBW.out) (Nat.lt_of_lt_of_le hb HBW.out.size) hk1 hk HBAD.out)
        go_wp2_with fail
        refine HP.out.mono ?_
        rintro e w3 ⟨v, L, qs, rfl, ho, hgot, hq, hq60, hb3⟩
        have HGOT := hideIt hgot
        have HQ := hideIt hq
        have HB3 := hideIt hb3
        have HB3w := hideIt (HBW.out.trans (hb3.mono HBW.out.size))
        have hlen3 : L.length ≤ 10000 := by have := hgot.len; omega
        clear hgot hq hb3 HP
        rcases ho.2 with ⟨rfl, h0⟩ | ⟨g, cg, cur, rfl, hgb, hgh, _⟩
        · obtain rfl : L = [] := List.length_eq_zero_iff.1 h0
          have R1 : Hid (∀ d : Int, 1 ≤ d → d < (k + 1 : Nat) → noBad l d) := fun d h1 h2 => by
            by_cases e : d = k
            · subst e; exact noBad_of ok.out h1 (by omega) HBAD.out HGOT.out HQ.out
            · exact HBAD.out d h1 (by omega)
          have R2 := hideIt (HNX.out.trans (HB3.out.mono HNX.out.size))
          clear ho
          go_wp2
          go_roundw
          case rel => exact ⟨k + 1, by omega, by omega, by go_num, R1.out, R2.out⟩
          case measure => simp [intOf]; omega
        · have hgl : g < w3.heap.size := (Array.getElem?_eq_some_iff.1 hgh).1
          have HPR := hideIt (prsAt_of ho)
          clear ho hgh
          by_cases h0 : 0 < L.length
          · have hpI : (0 : Int) < (L.length : Int) := by omega
            have HLE := hideIt (least_any L g cg w3 hlen3 h0 HPR.out hgl)
            go_wp2_with fail
            refine HLE.out.mono ?_
            rintro e w4 ⟨p, rfl, hp, hle, hb4⟩
            have R1 := hideIt (finds_of ok.out (by omega) (by omega) HBAD.out HGOT.out HQ.out hp hle)
            have R2 := hideIt (HB3w.out.trans (hb4.mono HB3w.out.size))
            clear hp hle hb4 HLE
            unfold Pr.agg
            go_wp2_with fail
            go_big_quiet (fail)
            go_wp2
            (try simp only [Exit.inBlock, Exit.then]); refine bodyPost_ret (results_tmp4 rfl _ _ _) rfl ?_
            exact ⟨0, k, p.a, p.b, by simp [toldV], HCT.out, fun _ => R1.out, fun h => absurd rfl h, below_drewN (belA R2.out _) _⟩
          · obtain rfl : L = [] := List.length_eq_zero_iff.1 (by omega)
            have R1 : Hid (∀ d : Int, 1 ≤ d → d < (k + 1 : Nat) → noBad l d) := fun d h1 h2 => by
              by_cases e : d = k
              · subst e; exact noBad_of ok.out h1 (by omega) HBAD.out HGOT.out HQ.out
              · exact HBAD.out d h1 (by omega)
            have R2 := hideIt (HNX.out.trans (HB3.out.mono HNX.out.size))
            go_wp2
            go_roundw
            case rel => exact ⟨k + 1, by omega, by omega, by go_num, R1.out, R2.out⟩
            case measure => simp [intOf]; omega
      · have hkI : ¬ (k : Int) ≤ 4 := by omega
        have R1 : Hid (FindsT l 0 0 0) := .inl ⟨rfl, rfl, rfl, fun c h1 h4 => HBAD.out c h1 (by omega)⟩
        go_wp2
        (try simp only [Exit.inBlock, Exit.then]); refine bodyPost_ret (results_tmp4 rfl _ _ _) rfl ?_
        exact ⟨0, 0, 0, 0, by simp [toldV], HCT.out, fun _ => R1.out, fun h => absurd rfl h, HBW.out⟩
  · have e : toldV n = .iface 24 (.int .i64 n) := by simp [toldV, hn]
    rw [e]
    have HE := hideIt e
    clear e
    go_wp2
    (try simp only [Exit.inBlock, Exit.then]); refine bodyPost_ret (results_tmp4 rfl _ _ _) rfl ?_
    exact ⟨n, 0, 0, 0, by rw [HE.out]; rfl, HCT.out, fun h => absurd h hn, fun _ => ⟨rfl, rfl, rfl⟩, HB1.out⟩

end Go.Proofs.YtelndpbkheoeaaaDoor

namespace Go.Proofs.YtelndpbkheoeaaaDoor
open Go.RowKit

set_option maxHeartbeats 1000000 in
theorem pairs_none (c : Int) (sl : Value) (M n : Nat) (w : World) (hm : MapV Tryd.prog Life.val w M n (fun _ => none)) :
    Calls Tryd.prog 31 #[.map (some M), .int .i64 c, sl] w fun e w' => e = .returned (.slice none 0 0) ∧ Below w.heap.size w w' := by
  have HM0 := hideIt hm
  clear hm
  go_enter Tryd.func31, Tryd.ntmps31
  go_wp2_with (at_range; refine wpList_range_v (mk := Life.val) _ Tryd.underlying3 rfl _ _ rfl _ Tryd.underlying72 _ _ _ rfl HM0.out ?_; intro w2 hr2 hg2 hs2 hc2)
  go_frame
  go_loopw [7] (fun v wr => v = .slice none 0 0 ∧ (∃ (f : Int → Option Life) (left : Int → Bool), RangeV Tryd.prog Life.val wr M w.heap.size n f left ∧ ∀ q, f q = none) ∧ Below w.heap.size w wr) (fun _ _ => 0)
  case atStart => exact ⟨rfl, ⟨_, _, hr2, fun _ => rfl⟩, (Below.refl w.heap.size w).grown hg2 (Nat.le_refl _) (fun k hk => by cases hk)⟩
  case round =>
    obtain ⟨rfl, ⟨f, left, hrg, hf⟩, hnx⟩ := hrel
    have HNX := hideIt hnx
    have HF := hideIt hf
    clear hnx hf
    go_wp2_with (at_next; refine wpList_next_v _ Tryd.underlying3 rfl _ rfl M w.heap.size n f left rfl hrg ?_ ?_)
    · intro _
      go_wp2
      go_ret
      exact ⟨rfl, HNX.out⟩
    · intro u t w3 hwf hfu
      rw [HF.out u] at hfu
      cases hfu

set_option maxHeartbeats 1000000 in
theorem finds_none (a : Option Addr) (cap : Nat) (w : World) : Calls Tryd.prog 16 #[.slice a 0 cap] w fun e w' => FnTold [] w e w' := by
  have HC := hideIt (qCheck_none a cap w)
  have HCT : Hid (CTold qFormB 9 [] 0) := cTold_all told_nilQ (fun j hj => absurd hj (by simp))
  have HF : Hid (FindsT [] 0 0 0) := .inl ⟨rfl, rfl, rfl, fun c _ _ i k hi => absurd hi (by simp)⟩
  go_enter Tryd.func16, Tryd.ntmps16
  go_wp2_with fail
  refine HC.out.mono ?_
  rintro e w1 ⟨rfl, hb1⟩
  have HB1 := hideIt hb1
  have HV := hideIt (lives_any [] a cap w1 (by simp) (.inl rfl) told_nilQ)
  clear hb1 HC
  rw [show toldV 0 = .nilIface from by simp [toldV]]
  go_wp2_with fail
  refine HV.out.mono ?_
  rintro e w2 ⟨M, rfl, hM1, hm2, hb2⟩
  have HM2 : Hid (MapV Tryd.prog Life.val w2 M 0 (fun _ => none)) := hm2
  have HB2 := hideIt hb2
  have hMlt := hm2.lt
  clear hm2 hb2 HV
  go_wp2
  go_loopw [2] (fun i wr => ∃ k : Nat, 1 ≤ k ∧ k ≤ 5 ∧ i = .int .i64 k ∧ Below w2.heap.size w2 wr) (fun i _ => 6 - (intOf i).toNat)
  case atStart => exact ⟨1, by omega, by omega, rfl, Below.refl _ _⟩
  case round =>
    obtain ⟨k, hk1, hk5, rfl, hnx⟩ := hrel
    have HNX := hideIt hnx
    have HBW := hideIt (HB1.out.trans ((HB2.out.trans (hnx.mono HB2.out.size)).mono HB1.out.size))
    by_cases hk : k ≤ 4
    · have hkI : (k : Int) ≤ 4 := by omega
      have HP := hideIt (pairs_none k (.slice a 0 cap) M 0 wr (HM2.out.below hnx hMlt))
      go_wp2_with fail
      refine HP.out.mono ?_
      rintro e w3 ⟨rfl, hb3⟩
      have R2 := hideIt (HNX.out.trans (hb3.mono HNX.out.size))
      clear hb3 HP
      go_wp2
      go_roundw
      case rel => exact ⟨k + 1, by omega, by omega, by go_num, R2.out⟩
      case measure => simp [intOf]; omega
    · have hkI : ¬ (k : Int) ≤ 4 := by omega
      go_wp2
      (try simp only [Exit.inBlock, Exit.then]); refine bodyPost_ret (results_tmp4 rfl _ _ _) rfl ?_
      exact ⟨0, 0, 0, 0, by simp [toldV], HCT.out, fun _ => HF.out, fun h => absurd rfl h, HBW.out⟩

theorem finds_any (l : List Opn) (a : Option Addr) (cap : Nat) (w : World) (hlen : l.length ≤ 60) (hcap : l.length ≤ cap) (hl : OpsQ w a l) :
    Calls Tryd.prog 16 #[.slice a l.length cap] w fun e w' => FnTold l w e w' := by
  rcases hl with rfl | ⟨b, off, rfl, hb, hl⟩
  · exact finds_none a cap w
  · exact finds_some l b off cap w hlen hcap hl hb

end Go.Proofs.YtelndpbkheoeaaaDoor
