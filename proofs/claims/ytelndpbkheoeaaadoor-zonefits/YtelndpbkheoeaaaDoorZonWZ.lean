/-
  Package zone's zonesOf, walked.
  Package zone's Check (of whatever list), Zones, walked.
  Package zone's clash and Fits, walked.
-/
import Derived.Test.YtelndpbkheoeaaaDoorSortZ
import Derived.Test.YtelndpbkheoeaaaDoorSpWZ
import Derived.BigQuiet
namespace Go.Proofs.YtelndpbkheoeaaaDoor
open Go.RowKit

/-- The keys that have come. -/
structure ColV {β : Type} (f : Int → Option β) (left : Int → Bool) (qs : List Int) : Prop where
  nodup : qs.Nodup
  mem : ∀ q, q ∈ qs ↔ ((f q).isSome = true ∧ left q = false)
theorem colV_start {β : Type} (f : Int → Option β) : ColV f (fun q => (f q).isSome) [] := ⟨List.nodup_nil, fun q => by cases (f q).isSome <;> simp⟩
theorem colV_step {β : Type} {f : Int → Option β} {left : Int → Bool} {qs : List Int} {x : Int} (h : ColV f left qs) (hl : left x = true) (hh : (f x).isSome = true) : ColV f (fun z => left z && !decide (z = x)) (qs ++ [x]) := by
  have hx : x ∉ qs := fun k => by have := ((h.mem x).1 k).2; rw [hl] at this; cases this
  refine ⟨?_, fun q => ?_⟩
  · rw [List.nodup_append]
    refine ⟨h.nodup, by simp, ?_⟩
    intro a ha b hb
    simp at hb
    subst hb
    exact fun k => hx (k ▸ ha)
  · rw [List.mem_append, List.mem_singleton, h.mem q]
    by_cases e : q = x
    · subst e; simp [hh]
    · simp [e]
theorem colV_end {β : Type} {f : Int → Option β} {left : Int → Bool} {qs : List Int} (h : ColV f left qs) (hl : ∀ q, left q = false) : ∀ q, q ∈ qs ↔ (f q).isSome = true := fun q => by
  rw [h.mem q]; simp [hl]
theorem rangeV_row {β : Type} {P : Program} {mk : β → Value} {w : World} {M r n base n2 size : Nat} {f : Int → Option β} {left : Int → Bool} {e : TypeId} {v : Value} {xs : List Value}
    (h : RangeV P mk w M r n f left) (ho : w.ownsRow base e size v n2 xs) : v.ownBlock ≠ some r := by
  obtain ⟨D, lf, cnt, ⟨_, _, _, _, _, _, _, _, _, hr, _⟩, _⟩ := h
  rcases ho.2 with ⟨rfl, _⟩ | ⟨g, cap, cur, rfl, _, hh, _⟩
  · simp [Value.ownBlock]
  · intro k
    simp [Value.ownBlock] at k
    subst k
    rw [hr] at hh
    cases hh

def zonsOf (f : Int → Option Span) (qs : List Int) : List Zon := qs.filterMap fun q => (f q).map (zonOf q)
theorem zonsOf_snoc {f : Int → Option Span} {q : Int} {s : Span} (h : f q = some s) (qs : List Int) : zonsOf f (qs ++ [q]) = zonsOf f qs ++ [zonOf q s] := by simp [zonsOf, h]
theorem zonsOf_mem {f : Int → Option Span} {qs : List Int} (h : ∀ q, q ∈ qs ↔ (f q).isSome = true) (z : Zon) : z ∈ zonsOf f qs ↔ ∃ s, f z.v = some s ∧ z = zonOf z.v s := by
  unfold zonsOf
  rw [List.mem_filterMap]
  constructor
  · rintro ⟨q, _, e⟩
    obtain ⟨s, hs, rfl⟩ := Option.map_eq_some_iff.1 e
    exact ⟨s, hs, rfl⟩
  · rintro ⟨s, hs, e⟩
    exact ⟨z.v, (h z.v).2 (by rw [hs]; rfl), by rw [hs]; exact congrArg some e.symm⟩
theorem zonsOf_len {f : Int → Option Span} : ∀ {qs : List Int}, (∀ q ∈ qs, (f q).isSome = true) → (zonsOf f qs).length = qs.length
  | [], _ => rfl
  | q :: qs, h => by
    obtain ⟨s, hs⟩ := Option.isSome_iff_exists.1 (h q (List.mem_cons_self ..))
    have := zonsOf_len (f := f) (qs := qs) fun x hx => h x (List.mem_cons_of_mem _ hx)
    simp [zonsOf, hs] at this ⊢
    exact this
theorem zonsOf_vals {f : Int → Option Span} : ∀ {qs : List Int}, qs.Nodup → ((zonsOf f qs).map Zon.v).Nodup
  | [], _ => List.nodup_nil
  | q :: qs, h => by
    obtain ⟨h1, h2⟩ := List.nodup_cons.1 h
    have ih := zonsOf_vals (f := f) h2
    unfold zonsOf at ih ⊢
    cases hf : f q with
    | none => rw [List.filterMap_cons_none (by rw [hf]; rfl)]; exact ih
    | some s =>
      rw [List.filterMap_cons_some (b := zonOf q s) (by rw [hf]; rfl), List.map_cons, List.nodup_cons]
      refine ⟨fun hm => ?_, ih⟩
      obtain ⟨z, hz, e⟩ := List.mem_map.1 hm
      obtain ⟨p, hp, e2⟩ := List.mem_filterMap.1 hz
      obtain ⟨t, _, rfl⟩ := Option.map_eq_some_iff.1 e2
      have : p = q := e
      exact h1 (this ▸ hp)

/-- The zones of a map's spans, rising. -/
structure GotZ (f : Int → Option Span) (L : List Zon) : Prop where
  mem : ∀ z, z ∈ L ↔ ∃ s, f z.v = some s ∧ z = zonOf z.v s
  vals : (L.map Zon.v).Nodup
  rise : L.Pairwise (fun x y => x.lo ≤ y.lo)

theorem info36 : (Tryd.prog.info? 36).map (fun i => (i.zero, i.size, i.bytes)) = some (some (.agg #[.int .i64 0, .int .i64 0, .int .i64 0, .bool false]), 4, 32) := by kernel_rfl

set_option maxHeartbeats 2000000 in
theorem zonesOf_any (w : World) (M n : Nat) (f : Int → Option Span) (hn : n ≤ 100) (hm : MapV Tryd.prog Span.val w M n f) :
    Calls Tryd.prog 23 #[.map (some M)] w fun e w' => ∃ (g cap : Nat) (L : List Zon), e = .returned (.slice (some ⟨g, 0, none⟩) L.length cap) ∧ (L.length ≤ cap ∧ L.length ≤ 100) ∧ w.heap.size ≤ g ∧ g < w'.heap.size ∧ GotZ f L ∧ ZonsAt w' g 0 L ∧ Below w.heap.size w w' := by
  have hM := hm.lt
  have hm' := hm
  obtain ⟨D, hown, htell⟩ := hm
  have HT := hideIt htell
  have hsz := hown.size_le
  obtain ⟨i0, hi, hz0, hz1, hz2⟩ := info_parts info36
  clear htell
  go_enter Tryd.func23, Tryd.ntmps23
  go_wp2_with (first | (at_len; refine wpList_len_own _ rfl _ _ rfl _ _ Tryd.underlying56 _ _ _ D rfl hown ?_) | (at_make; refine wpList_make_own _ rfl _ _ 27 rfl w.heap.size 36 i0 _ 4 Tryd.underlying27 hi hz0 hz1 _ _ _ (Maps.size D) rfl rfl rfl (by rw [hz2]; omega) (by unfold maxLen; omega) (Nat.le_refl _) ?_; intro w1 ho1 hg1) | (at_range; refine wpList_range_v _ Tryd.underlying3 rfl _ _ rfl _ Tryd.underlying56 _ _ _ rfl (hm'.kept hg1 (by simp)) ?_; intro w2 hr2 hg2 hs2 hc2))
  go_frame
  have hs1 : w.heap.size < w1.heap.size := (ho1.lt w.heap.size rfl).2
  go_loopw [3] (fun v wr => ∃ (left : Int → Bool) (qs : List Int), RangeV Tryd.prog Span.val wr M w1.heap.size n f left ∧ wr.ownsRow w.heap.size 36 4 v qs.length (zonCells (zonsOf f qs)) ∧ ColV f left qs ∧ qs.length + wr.rangeLeft M w1.heap.size ≤ n ∧ v ≠ .slice none 0 0 ∧ Below w.heap.size w wr)
    (fun _ wr => wr.rangeLeft M w1.heap.size)
  case atStart =>
    exact ⟨_, [], hr2, ho1.kept hg2 (by simp [Value.ownBlock]), colV_start f, by simpa using hc2, by simp, ((Below.refl _ _).grown hg1 (Nat.le_refl _) (fun k hk => by cases hk)).grown hg2 hg1.size (fun k hk => by cases hk)⟩
  case round =>
    obtain ⟨left, qs, hrg, hro, hcol, hcnt, hnn, hnx⟩ := hrel
    have hir := rangeV_row hrg hro
    have hszr := hnx.size
    have hrl := hrg.ltr
    have hMr := hrg.map.lt
    have hall : ∀ q ∈ qs, (f q).isSome = true := fun q hq => ((hcol.mem q).1 hq).1
    go_wp2_with (at_next; refine wpList_next_v _ Tryd.underlying3 rfl _ rfl M w1.heap.size n f left rfl hrg ?_ ?_)
    · intro hleft
      have hmem := colV_end hcol hleft
      rcases hro.2 with ⟨e, _⟩ | ⟨g, cap, cur, rfl, hbase, hh, h1, _⟩
      · exact absurd e hnn
      · have hlen := zonsOf_len hall
        have hgl : g < wr.heap.size := (Array.getElem?_eq_some_iff.1 hh).1
        rw [← hlen] at hro h1 ⊢
        have HRO := hideIt hro
        have HG := hideIt (fun (L : List Zon) (hp : L.Perm (zonsOf f qs)) (hs : L.Pairwise (fun x y => x.lo ≤ y.lo)) => show GotZ f L from ⟨fun z => (hp.mem_iff).trans (zonsOf_mem hmem z), (hp.map Zon.v).nodup_iff.2 (zonsOf_vals hcol.nodup), hs⟩)
        have hl100 : (zonsOf f qs).length ≤ 100 := by omega
        generalize zonsOf f qs = L0 at h1 HRO HG hl100
        clear hro hrg hcol hmem hir hleft hlen hall hh
        go_wp2_with fail
        refine (sortZ_list g cap w.heap.size w.heap.size L0 _ (by omega) HRO.out hbase (by omega) hgl).mono ?_
        rintro e w3 ⟨rfl, L', hp, hl, hs, hat, hgr3, hb3⟩
        have R1 := hideIt (HG.out L' hp hs)
        have R2 := hideIt hat
        have R3 := hideIt (hnx.trans hb3)
        have R4 : Hid (L'.length = L0.length) := hl
        have R5 : Hid (g < w3.heap.size) := Nat.lt_of_lt_of_le hgl hgr3
        clear hp hs hat hb3 hl hgr3
        go_wp2
        go_ret
        exact ⟨g, cap, L', by rw [R4.out]; rfl, by rw [R4.out]; exact ⟨h1, hl100⟩, hbase, R5.out, R1.out, R2.out, R3.out⟩
    · intro x s w3 hwf hfx hlx hrg3 hlt3 hg3 hs3 hen
      have hro3 := hro.kept hg3 (.inr hir)
      have HCO := hideIt (colV_step hcol hlx (by rw [hfx]; rfl))
      have HCE : Hid (zonCells (zonsOf f (qs ++ [x])) = zonCells (zonsOf f qs) ++ (zonOf x s).list) := by
        show zonCells (zonsOf f (qs ++ [x])) = _
        rw [zonsOf_snoc hfx, zonCells_snoc]
      have HS3 : Hid (w3.heap.size = wr.heap.size) := hs3
      have hsz3 : w.heap.size ≤ w3.heap.size := by omega
      have hqs : qs.length ≤ 100 := by omega
      have HB3 : Hid (Below w.heap.size w w3) := hnx.grown hg3 (by omega) (fun k hk => by have := Option.some.inj hk; omega)
      have HLT := hideIt hlt3
      clear hlx hlt3 hs3 hcol
      unfold Span.val at hen
      unfold Span.val
      by_cases hsb : s.e < s.b
      · have hmin : min s.e s.b = s.e := by omega
        have hmax : max s.e s.b = s.b := by omega
        have hsb' : decide (s.e < s.b) = true := decide_eq_true hsb
        have hz : zonOf x s = ⟨x, s.e, s.b, true⟩ := by unfold zonOf; rw [hmin, hmax, hsb']
        rw [hz] at HCE
        clear hz
        go_wp2_with (at_builtin; refine wpList_append_own _ rfl _ _ 27 rfl w.heap.size 36 i0 _ 4 32 Tryd.underlying27 hi hz0 hz1 hz2 rfl (by decide) _ _ _ rfl ((hro3.alloc _).alloc _) ⟨w3.heap.size + 1, 0, none⟩ 1 1 (Zon.list ⟨x, s.e, s.b, true⟩) rfl rfl ?c1 ?c2 ?c3 ?c4 ?c5 ?_)
        case c1 =>
          intro j u hj
          match j, hj with
          | 0, hj => simp [Zon.list] at hj; subst hj; first | (simp; done) | simp [Addr.add]
          | 1, hj => simp [Zon.list] at hj; subst hj; first | (simp; done) | (simp [Addr.add]; done) | simp [Addr.add, hmin]
          | 2, hj => simp [Zon.list] at hj; subst hj; first | (simp; done) | (simp [Addr.add]; done) | simp [Addr.add, hmax]
          | 3, hj => simp [Zon.list] at hj; subst hj; first | (simp; done) | (simp [Addr.add]; done) | simp [Addr.add, hsb]
          | n + 4, hj => simp [Zon.list] at hj
        case c2 => intro u hu; simp [Zon.list] at hu; rcases hu with rfl | rfl | rfl | rfl <;> rfl
        case c3 => unfold maxLen; omega
        case c4 => omega
        case c5 => first | omega | (simp; omega)
        · intro v' w4 hown4 hgrow hnil4
          have hrow4 : ∀ k, Value.ownBlock _ = some k → w.heap.size ≤ k := fun k hk => (hro3.lt k hk).1
          have hgall := (World.grownBy_alloc w3 _ _).trans ((World.grownBy_alloc _ _ _).trans hgrow)
          have hkM : some M ≠ Value.ownBlock _ := fun k => by have := hrow4 M k.symm; omega
          have R3 := hideIt (hrg3.kept hgall hkM (Ne.symm hir))
          have R4 : Hid (w4.rangeLeft M w1.heap.size < wr.rangeLeft M w1.heap.size) := by
            show w4.rangeLeft M w1.heap.size < wr.rangeLeft M w1.heap.size
            rw [hrg3.count hgall hkM (Ne.symm hir)]; exact HLT.out
          have R1 : Hid (w4.ownsRow w.heap.size 36 4 v' (qs ++ [x]).length (zonCells (zonsOf f (qs ++ [x])))) := by
            show w4.ownsRow w.heap.size 36 4 v' (qs ++ [x]).length (zonCells (zonsOf f (qs ++ [x])))
            rw [HCE.out, List.length_append]
            exact hown4
          have R2 : Hid (Below w.heap.size w w4) := HB3.out.grown hgall hsz3 (fun k hk => hrow4 k hk)
          have R5 : Hid (v' ≠ .slice none 0 0) := hnil4
          have R6 : Hid ((qs ++ [x]).length + w4.rangeLeft M w1.heap.size ≤ n) := by
            show (qs ++ [x]).length + w4.rangeLeft M w1.heap.size ≤ n
            have := R4.out
            simp
            omega
          clear hown4 hgrow hgall hro3 hro hrg hrg3 hg3 hnil4 hkM
          go_wp2
          go_roundw
          case rel => exact ⟨_, qs ++ [x], R3.out, R1.out, HCO.out, R6.out, R5.out, R2.out⟩
          case measure => exact R4.out
      · have hmin : min s.e s.b = s.b := by omega
        have hmax : max s.e s.b = s.e := by omega
        have hsb' : decide (s.e < s.b) = false := decide_eq_false hsb
        have hz : zonOf x s = ⟨x, s.b, s.e, false⟩ := by unfold zonOf; rw [hmin, hmax, hsb']
        rw [hz] at HCE
        clear hz
        go_wp2_with (at_builtin; refine wpList_append_own _ rfl _ _ 27 rfl w.heap.size 36 i0 _ 4 32 Tryd.underlying27 hi hz0 hz1 hz2 rfl (by decide) _ _ _ rfl ((hro3.alloc _).alloc _) ⟨w3.heap.size + 1, 0, none⟩ 1 1 (Zon.list ⟨x, s.b, s.e, false⟩) rfl rfl ?c1 ?c2 ?c3 ?c4 ?c5 ?_)
        case c1 =>
          intro j u hj
          match j, hj with
          | 0, hj => simp [Zon.list] at hj; subst hj; first | (simp; done) | simp [Addr.add]
          | 1, hj => simp [Zon.list] at hj; subst hj; first | (simp; done) | (simp [Addr.add]; done) | simp [Addr.add, hmin]
          | 2, hj => simp [Zon.list] at hj; subst hj; first | (simp; done) | (simp [Addr.add]; done) | simp [Addr.add, hmax]
          | 3, hj => simp [Zon.list] at hj; subst hj; first | (simp; done) | (simp [Addr.add]; done) | simp [Addr.add, hsb]
          | n + 4, hj => simp [Zon.list] at hj
        case c2 => intro u hu; simp [Zon.list] at hu; rcases hu with rfl | rfl | rfl | rfl <;> rfl
        case c3 => unfold maxLen; omega
        case c4 => omega
        case c5 => first | omega | (simp; omega)
        · intro v' w4 hown4 hgrow hnil4
          have hrow4 : ∀ k, Value.ownBlock _ = some k → w.heap.size ≤ k := fun k hk => (hro3.lt k hk).1
          have hgall := (World.grownBy_alloc w3 _ _).trans ((World.grownBy_alloc _ _ _).trans hgrow)
          have hkM : some M ≠ Value.ownBlock _ := fun k => by have := hrow4 M k.symm; omega
          have R3 := hideIt (hrg3.kept hgall hkM (Ne.symm hir))
          have R4 : Hid (w4.rangeLeft M w1.heap.size < wr.rangeLeft M w1.heap.size) := by
            show w4.rangeLeft M w1.heap.size < wr.rangeLeft M w1.heap.size
            rw [hrg3.count hgall hkM (Ne.symm hir)]; exact HLT.out
          have R1 : Hid (w4.ownsRow w.heap.size 36 4 v' (qs ++ [x]).length (zonCells (zonsOf f (qs ++ [x])))) := by
            show w4.ownsRow w.heap.size 36 4 v' (qs ++ [x]).length (zonCells (zonsOf f (qs ++ [x])))
            rw [HCE.out, List.length_append]
            exact hown4
          have R2 : Hid (Below w.heap.size w w4) := HB3.out.grown hgall hsz3 (fun k hk => hrow4 k hk)
          have R5 : Hid (v' ≠ .slice none 0 0) := hnil4
          have R6 : Hid ((qs ++ [x]).length + w4.rangeLeft M w1.heap.size ≤ n) := by
            show (qs ++ [x]).length + w4.rangeLeft M w1.heap.size ≤ n
            have := R4.out
            simp
            omega
          clear hown4 hgrow hgall hro3 hro hrg hrg3 hg3 hnil4 hkM
          go_wp2
          go_roundw
          case rel => exact ⟨_, qs ++ [x], R3.out, R1.out, HCO.out, R6.out, R5.out, R2.out⟩
          case measure => exact R4.out

end Go.Proofs.YtelndpbkheoeaaaDoor

namespace Go.Proofs.YtelndpbkheoeaaaDoor
open Go.RowKit

/-- Ops that came in, or none. -/
def OpsH (w : World) (a : Option Addr) (l : List Opn) : Prop := l = [] ∨ ∃ b off, a = some ⟨b, off, none⟩ ∧ b < w.heap.size ∧ OpsAt w b off l
theorem OpsH.below {w w' : World} {a : Option Addr} {l : List Opn} (h : OpsH w a l) (hb : Below w.heap.size w w') : OpsH w' a l := by
  rcases h with h | ⟨b, off, rfl, hlt, h⟩
  · exact .inl h
  · exact .inr ⟨b, off, rfl, Nat.lt_of_lt_of_le hlt hb.size, h.below hlt hb⟩

/-- Zones in memory, or none. -/
def ZonsH (w : World) (v : Value) (L : List Zon) : Prop :=
  ∃ a cap, v = .slice a L.length cap ∧ L.length ≤ cap ∧ L.length ≤ 100 ∧ (L = [] ∨ ∃ g, a = some ⟨g, 0, none⟩ ∧ g < w.heap.size ∧ ZonsAt w g 0 L)
theorem ZonsH.below {w w' : World} {v : Value} {L : List Zon} (h : ZonsH w v L) (hb : Below w.heap.size w w') : ZonsH w' v L := by
  obtain ⟨a, cap, rfl, h1, h2, h⟩ := h
  refine ⟨a, cap, rfl, h1, h2, ?_⟩
  rcases h with h | ⟨g, rfl, hlt, h⟩
  · exact .inl h
  · exact .inr ⟨g, rfl, Nat.lt_of_lt_of_le hlt hb.size, h.below hlt hb⟩
theorem zonsH_nil (w : World) : ZonsH w (.slice none 0 0) [] := ⟨none, 0, rfl, by decide, by decide, .inl rfl⟩

theorem told_nil : Told [] 0 := .inr (.inl ⟨by simp, fun j h => absurd h (by simp), rfl⟩)

set_option maxHeartbeats 400000 in
theorem zCheck_none (a : Option Addr) (cap : Nat) (w : World) : Calls Tryd.prog 10 #[.slice a 0 cap] w fun e w' => e = .returned (toldV 0) ∧ Below w.heap.size w w' := by
  have hmm := @run_makeMap Tryd.prog
  go_enter Tryd.func10, Tryd.ntmps10
  go_wp2_with (go_at_call 25; refine (checkOps_none a cap _).mono ?_; rintro e w' ⟨rfl, rfl⟩; rw [show toldV 0 = .nilIface from by simp [toldV]])
  clear hmm
  refine wp_loop_rounds 1 ?_
  rw [rounds_succ]
  go_wp2
  go_ret
  exact ⟨by simp [toldV], belA (Below.refl _ _) _⟩

theorem zCheck_any (l : List Opn) (a : Option Addr) (cap : Nat) (w : World) (hlen : l.length ≤ 60) (hcap : l.length ≤ cap) (hl : OpsH w a l) :
    Calls Tryd.prog 10 #[.slice a l.length cap] w fun e w' => ∃ n, e = .returned (toldV n) ∧ CTold zFormB 2 l n ∧ Below w.heap.size w w' := by
  rcases hl with rfl | ⟨b, off, rfl, hb, hl⟩
  · exact (zCheck_none a cap w).mono fun e w' ⟨he, hw⟩ => ⟨0, he, cTold_all told_nil (fun j hj => absurd hj (by simp)), hw⟩
  · by_cases h0 : 0 < l.length
    · exact zCheck_some l b off cap w hlen h0 hcap hl hb
    · obtain rfl : l = [] := List.length_eq_zero_iff.1 (by omega)
      exact (zCheck_none _ cap w).mono fun e w' ⟨he, hw⟩ => ⟨0, he, cTold_all told_nil (fun j hj => absurd hj (by simp)), hw⟩

theorem gotZ_list {l : List Opn} {L : List Zon} (ok : ZOk l) (h : GotZ (spR l l.length) L) : ZList l L := by
  refine ⟨h.mem, ?_⟩
  have h1 := List.pairwise_map.1 h.vals
  refine (h1.and h.rise).imp_of_mem ?_
  rintro x y hx hy ⟨hne, hle⟩
  obtain ⟨s, hs, ex⟩ := (h.mem x).1 hx
  obtain ⟨t, ht, ey⟩ := (h.mem y).1 hy
  have := lo_apart ok hne hs ht
  rw [← ex, ← ey] at this
  omega

set_option maxHeartbeats 2000000 in
theorem zones_any (l : List Opn) (a : Option Addr) (cap : Nat) (w : World) (hlen : l.length ≤ 60) (hcap : l.length ≤ cap) (hl : OpsH w a l) :
    Calls Tryd.prog 8 #[.slice a l.length cap] w fun e w' => ∃ n v L, e = .returned (.tuple #[v, toldV n]) ∧ ZTold l n L ∧ ZonsH w' v L ∧ Below w.heap.size w w' := by
  have HL := hideIt hl
  have HC := hideIt (zCheck_any l a cap w hlen hcap hl)
  clear hl
  go_enter Tryd.func8, Tryd.ntmps8
  go_wp2_with fail
  refine HC.out.mono ?_
  rintro e w1 ⟨n, rfl, ht, hb1⟩
  have HB1 := hideIt hb1
  by_cases hn : n = 0
  · subst hn
    have HCT := hideIt ht
    have HT := hideIt ht.zero.1
    have HL1 := hideIt (HL.out.below hb1)
    have HS : Hid (∀ W, Below w1.heap.size w1 W → Calls Tryd.prog 21 #[.slice a l.length cap] W fun e w' => ∃ M, e = .returned (.map (some M)) ∧ W.heap.size ≤ M ∧ MapV Tryd.prog Span.val w' M (l.length + 1) (spW l l.length) ∧ Below W.heap.size W w') := fun W hW => spW_any l a cap W hlen (HL1.out.below hW) HT.out
    clear ht hb1 HC
    rw [show toldV 0 = .nilIface from by simp [toldV]]
    go_wp2_with fail
    refine (HS.out _ (Below.refl _ _)).mono ?_
    rintro e w2 ⟨M, rfl, hM1, hm2, hb2⟩
    have HM2 := hideIt hm2
    have HB2 := hideIt hb2
    clear hm2 hb2 HS
    go_wp2
    go_loopw [19] (fun i wr => ∃ k : Nat, k ≤ l.length ∧ i = .int .i64 k ∧ (∀ j, j < k → (opZ l j).d = 1 → noneB (spW l l.length) (opZ l j) = false) ∧ MapV Tryd.prog Span.val wr M (l.length + 1 + k) (spR l k) ∧ Below w1.heap.size w1 wr) (fun i _ => l.length - (intOf i).toNat)
    case atStart => exact ⟨0, Nat.zero_le _, rfl, fun j hj => absurd hj (by omega), HM2.out, HB2.out⟩
    case round =>
      obtain ⟨k, hk, rfl, ha, hm, hnx⟩ := hrel
      have HA := hideIt ha
      have HM := hideIt hm
      have HNX := hideIt hnx
      have HMlt : Hid (M < wr.heap.size) := hm.lt
      have ok := hideIt (zOk_of HCT.out)
      clear ha hm
      by_cases hkl : k < l.length
      · rcases HL1.out with e | ⟨b, off, rfl, hbw, HO⟩
        · subst e; simp at hkl
        · have HOO := hideIt HO
          clear HO
          obtain ⟨c0, c1, c2, c3, c4, c5, c6, c7⟩ := (HOO.out k hkl).below hbw hnx
          have HX : Hid (opZ l k = l[k]) := opZ_at hkl
          have HNum := hideIt (told_num HT.out k hkl)
          rw [HX.out] at HNum
          generalize l[k] = x at c0 c1 c2 c3 c4 c5 c6 c7 HX HNum
          have hwf : (Lit.int .i64 x.r).wf = true := WalkArith.wf_i64 (by have := HNum.out; omega)
          have HKeep : Hid (∀ W, Below wr.heap.size wr W → MapV Tryd.prog Span.val W M (l.length + 1 + k) (spR l k) ∧ Below w1.heap.size w1 W) := fun W hW => ⟨HM.out.below hW HMlt.out, HNX.out.trans (hW.mono HNX.out.size)⟩
          by_cases hd : x.d = 1
          · have hd' : (x.d != 1) = false := by simp [hd]
            have HD := hideIt hd
            clear hd
            have HNB : Hid (noneB (spR l k) x = noneB (spW l l.length) (opZ l k)) := by
              show noneB (spR l k) x = _
              rw [HX.out]; exact noneB_eq ok.out hk x
            cases hs : spR l k x.r with
            | none =>
              have R1 : Hid (ZTold l 8 []) := ⟨0, HCT.out, .inr (.inl ⟨rfl, ⟨k, hkl, by rw [HX.out]; exact HD.out, by rw [← HNB.out]; unfold noneB; rw [hs]⟩, rfl, rfl⟩)⟩
              have HS := hideIt hs
              clear hs
              go_wp2_with (at_lookup; refine wpList_look_none _ Tryd.underlying3 rfl _ _ rfl Tryd.underlying56 _ _ _ (zeroSpan _) rfl (HM.out.alloc _) _ rfl hwf HS.out ?_)
              go_ret2
              exact ⟨8, _, [], by simp [toldV], R1.out, zonsH_nil _, belJ HB1.out (belA (belA HNX.out _) _)⟩
            | some s =>
              have HS := hideIt hs
              by_cases he : x.e < s.w
              · have he' : decide (x.e < s.w) = true := by simp [he]
                have R1 : Hid (ZTold l 8 []) := ⟨0, HCT.out, .inr (.inl ⟨rfl, ⟨k, hkl, by rw [HX.out]; exact HD.out, by rw [← HNB.out]; unfold noneB; rw [hs]; exact he'⟩, rfl, rfl⟩)⟩
                clear hs
                go_wp2_with (at_lookup; refine wpList_look_some (mk := Span.val) _ Tryd.underlying3 rfl _ _ rfl Tryd.underlying56 _ _ _ (zeroSpan _) rfl (HM.out.alloc _) _ rfl hwf s HS.out ?_; unfold Span.val)
                go_ret2
                exact ⟨8, _, [], by simp [toldV], R1.out, zonsH_nil _, belJ HB1.out (belA (belA HNX.out _) _)⟩
              · have he' : decide (x.e < s.w) = false := by simp [he]
                have R1 : Hid (∀ j, j < k + 1 → (opZ l j).d = 1 → noneB (spW l l.length) (opZ l j) = false) := fun j hj hdj => by
                  by_cases e : j = k
                  · subst e; rw [← HNB.out]; unfold noneB; rw [hs]; exact he'
                  · exact HA.out j (by omega) hdj
                have R3 : Hid (spR l (k + 1) = putK (spR l k) x.r (some (s.more x))) := by
                  show (if (opZ l k).d = 1 then moreAt (spR l k) (opZ l k) else spR l k) = _
                  rw [HX.out, if_pos HD.out]
                  unfold moreAt
                  rw [hs]
                clear hs
                have HMO : Hid (∀ W, Calls Tryd.prog 22 #[.agg #[.int .i64 s.w, .int .i64 s.e, .int .i64 s.b], x.agg] W fun e w' => e = .returned (.agg #[.int .i64 (s.more x).w, .int .i64 (s.more x).e, .int .i64 (s.more x).b]) ∧ Below W.heap.size W w') := fun W => more_any s x W
                generalize s.more x = s' at R3 HMO
                go_wp2_with (at_lookup; refine wpList_look_some (mk := Span.val) _ Tryd.underlying3 rfl _ _ rfl Tryd.underlying56 _ _ _ (zeroSpan _) rfl (HM.out.alloc _) _ rfl hwf s HS.out ?_; unfold Span.val)
                go_region_with (go_at_call 22; refine (HMO.out _).mono ?_; rintro e w4 ⟨rfl, hb4⟩; have HB4 := hideIt (show Below wr.heap.size wr w4 from belJ (by repeat (first | exact Below.refl _ _ | refine Below.drew ?_ | refine belA ?_ _)) hb4); have e5 : w4.cell? ⟨wr.heap.size, 5, none⟩ = some (.int .i64 x.r) := (by rw [hb4.cell (p := ⟨wr.heap.size, 5, none⟩) (by simp; omega)]; simp); obtain ⟨w5, hrun, hm5, hg5⟩ := (HKeep.out w4 HB4.out).1.store Tryd.underlying3 Tryd.underlying56 (by omega) hwf s'; have HM5 := hideIt hm5; have HB5 := hideIt ((HKeep.out w4 HB4.out).2.grown hg5 (HKeep.out w4 HB4.out).2.size (fun j hj => by cases hj; exact hM1)); unfold Span.val at hrun; clear hb4 hm5 hg5)
                all_goals
                  clear hrun
                  go_wp2
                  go_roundw
                  case rel => exact ⟨k + 1, by omega, by go_num, R1.out, by rw [R3.out]; first | exact HM5.out | exact HM5.out.drew, by first | exact HB5.out | exact HB5.out.drew⟩
                  case measure => simp [intOf]; omega
          · have hd' : (x.d != 1) = true := by simp [hd]
            have R1 : Hid (∀ j, j < k + 1 → (opZ l j).d = 1 → noneB (spW l l.length) (opZ l j) = false) := fun j hj hdj => by
              by_cases e : j = k
              · subst e; rw [HX.out] at hdj; exact absurd hdj hd
              · exact HA.out j (by omega) hdj
            have R3 : Hid (spR l (k + 1) = spR l k) := by
              show (if (opZ l k).d = 1 then moreAt (spR l k) (opZ l k) else spR l k) = _
              rw [HX.out, if_neg hd]
            clear hd
            go_wp2
            go_roundw
            case rel => exact ⟨k + 1, by omega, by go_num, R1.out, by rw [R3.out]; exact (HM.out.alloc _).mono (by omega), belA HNX.out _⟩
            case measure => simp [intOf]; omega
      · have hkk : k = l.length := by omega
        subst hkk
        have hfew := ok.out.few
        have HZ := hideIt (zonesOf_any wr M _ _ (by omega) HM.out)
        go_wp2_with fail
        refine HZ.out.mono ?_
        rintro e w3 ⟨g, cap', L, rfl, ⟨hc1, hc2⟩, hg1, hg2, hgot, hat, hb3⟩
        have R1 : Hid (ZTold l 0 L) := ⟨0, HCT.out, .inr (.inr ⟨rfl, HA.out, rfl, gotZ_list ok.out hgot⟩)⟩
        have R2 : Hid (ZonsH w3 (.slice (some ⟨g, 0, none⟩) L.length cap') L) := ⟨_, cap', rfl, hc1, hc2, .inr ⟨g, rfl, hg2, hat⟩⟩
        have R3 := hideIt (belJ HB1.out (HNX.out.trans (hb3.mono HNX.out.size)))
        clear hgot hat hb3
        go_wp2
        go_ret2
        exact ⟨0, _, L, by simp [toldV], R1.out, R2.out, R3.out⟩
  · have R1 : Hid (ZTold l n []) := ⟨n, ht, .inl ⟨hn, rfl, rfl⟩⟩
    have e : toldV n = .iface 24 (.int .i64 n) := by simp [toldV, hn]
    rw [e]
    have HE := hideIt e
    clear e
    go_wp2
    go_ret2
    exact ⟨n, _, [], by rw [HE.out]; rfl, R1.out, zonsH_nil _, HB1.out⟩

end Go.Proofs.YtelndpbkheoeaaaDoor

namespace Go.Proofs.YtelndpbkheoeaaaDoor
open Go.RowKit

theorem results_tmp4 {fn : Func} {t u v x : Tmp} (h : fn.results = #[.tmp t, .tmp u, .tmp v, .tmp x]) (tmps : Array Value) (P : Program) (w : World) :
    (results fn tmps).run P w = .ok (.tuple #[tmps.getD t undef, tmps.getD u undef, tmps.getD v undef, tmps.getD x undef]) w := by
  simp [results, h]

theorem size_lt_alloc (w : World) (o : Obj) : w.heap.size < (w.alloc o).heap.size := by simp

theorem zonAt_new (w : World) (z : Zon) : ZonAt (w.alloc (.cells #[.int .i64 z.v, .int .i64 z.lo, .int .i64 z.hi, .bool z.fw] 36)) w.heap.size 0 z := ⟨by simp, by simp, by simp, by simp⟩

set_option maxHeartbeats 400000 in
theorem clash_any (x y : Zon) (w : World) : Calls Tryd.prog 28 #[x.agg, y.agg] w fun e w' => e = .returned (.bool (clashZ x y)) ∧ Below w.heap.size w w' := by
  unfold Zon.agg clashZ
  obtain ⟨xv, xl, xh, xf⟩ := x
  obtain ⟨yv, yl, yh, yf⟩ := y
  cases xf
  · go_enter Tryd.func28, Tryd.ntmps28
    go_wp2
    all_goals
      go_ret
      exact ⟨by simp, belA (belA (Below.refl _ _) _) _⟩
  · cases yf
    · go_enter Tryd.func28, Tryd.ntmps28
      go_wp2
      go_ret
      exact ⟨by simp, belA (belA (Below.refl _ _) _) _⟩
    · go_enter Tryd.func28, Tryd.ntmps28
      go_wp2
      go_ret
      exact ⟨by simp, belA (belA (Below.refl _ _) _) _⟩

set_option maxHeartbeats 2000000 in
theorem fits_any (l : List Opn) (a : Option Addr) (cap : Nat) (w : World) (hlen : l.length ≤ 60) (hcap : l.length ≤ cap) (hl : OpsH w a l) :
    Calls Tryd.prog 13 #[.slice a l.length cap] w fun e w' => ∃ n L fit p q, e = .returned (.tuple #[.bool fit, .int .i64 p, .int .i64 q, toldV n]) ∧ ZTold l n L ∧ (n = 0 → FTold L fit p q) ∧ (n ≠ 0 → fit = false ∧ p = 0 ∧ q = 0) ∧ Below w.heap.size w w' := by
  have HC := hideIt (zones_any l a cap w hlen hcap hl)
  clear hl
  go_enter Tryd.func13, Tryd.ntmps13
  go_wp2_with fail
  refine HC.out.mono ?_
  rintro e w1 ⟨n, v, L, rfl, ht, hz, hb1⟩
  have HB1 := hideIt hb1
  have HT := hideIt ht
  clear hb1 ht HC
  by_cases hn : n = 0
  · subst hn
    obtain ⟨az, capz, rfl, hc1, hc2, hz⟩ := hz
    have HZ := hideIt hz
    clear hz
    rw [show toldV 0 = .nilIface from by simp [toldV]]
    go_wp2
    go_loopw [21] (fun i wr => ∃ k : Nat, k ≤ L.length ∧ i = .int .i64 k ∧ (∀ i' k', i' < k → i' < k' → k' < L.length → clashZ (zonI L i') (zonI L k') = false) ∧ Below w1.heap.size w1 wr) (fun i _ => L.length - (intOf i).toNat)
    case atStart => exact ⟨0, Nat.zero_le _, rfl, fun i' k' hj => absurd hj (by omega), Below.refl _ _⟩
    case round =>
      obtain ⟨k, hk, rfl, ha, hnx⟩ := hrel
      have HA := hideIt ha
      have HNX := hideIt hnx
      clear ha
      by_cases hkl : k < L.length
      · rcases HZ.out with e | ⟨g, rfl, hgw, HO⟩
        · subst e; simp at hkl
        · have HOO := hideIt HO
          clear HO
          obtain ⟨c0, c1, c2, c3⟩ := (HOO.out k hkl).below hgw hnx
          rw [Nat.zero_add] at c0 c1 c2 c3
          have HX : Hid (zonI L k = L[k]) := zonI_at hkl
          generalize L[k] = x at c0 c1 c2 c3 HX
          have hk1 : (k : Int) + 1 ≤ (L.length : Int) := by omega
          have HCL : Hid (∀ y W, Calls Tryd.prog 28 #[x.agg, Zon.agg y] W fun e w' => e = .returned (.bool (clashZ x y)) ∧ Below W.heap.size W w') := fun y W => clash_any x y W
          have hgr : g < wr.heap.size := Nat.lt_of_lt_of_le hgw hnx.size
          unfold Zon.agg at HCL
          clear HZ
          go_wp2
          all_goals
            try subst h
            generalize hm : L.length - (k + 1) = m
            go_loopw [31] (fun i wy => ∃ j : Nat, j ≤ m ∧ i = .int .i64 j ∧ (∀ k', k < k' → k' < k + 1 + j → clashZ x (zonI L k') = false) ∧ Below (wr.alloc (.cells #[.int .i64 x.v, .int .i64 x.lo, .int .i64 x.hi, .bool x.fw] 36)).heap.size (wr.alloc (.cells #[.int .i64 x.v, .int .i64 x.lo, .int .i64 x.hi, .bool x.fw] 36)) wy) (fun i _ => m - (intOf i).toNat)
            case atStart => exact ⟨0, Nat.zero_le _, rfl, fun k' h1 h2 => absurd h1 (by omega), Below.refl _ _⟩
            case round =>
              obtain ⟨j, hj, rfl, hb, hny⟩ := hrel
              have HBB := hideIt hb
              have HNY := hideIt hny
              have HBW := hideIt ((belA HNX.out (.cells #[.int .i64 x.v, .int .i64 x.lo, .int .i64 x.hi, .bool x.fw] 36)).trans (hny.mono (belA HNX.out _).size))
              clear hb
              by_cases hjm : j < m
              · try (exfalso; omega)
                all_goals
                  have hlt : k + 1 + j < L.length := by omega
                  have hg2 : g < wr.heap.size := Nat.lt_of_lt_of_le hgw HBW.out.size
                  obtain ⟨d0, d1, d2, d3⟩ := (HOO.out (k + 1 + j) hlt).below hgw HBW.out
                  rw [show 0 + (k + 1 + j) * 4 = (k + 1) * 4 + j * 4 from by omega] at d0 d1 d2 d3
                  obtain ⟨x0, x1, x2, x3⟩ := (zonAt_new _ x).below (size_lt_alloc _ _) hny
                  rw [Nat.zero_add] at x1 x2 x3
                  have hxl := Nat.lt_of_lt_of_le (size_lt_alloc _ _) hny.size
                  have y0 : ∀ o : Obj, (wr.alloc o).cell? _ = some (.int .i64 x.v) := fun o => (World.cell?_alloc_lt _ _ _ hxl).trans x0
                  have y1 : ∀ o : Obj, (wr.alloc o).cell? _ = some (.int .i64 x.lo) := fun o => (World.cell?_alloc_lt _ _ _ hxl).trans x1
                  have y2 : ∀ o : Obj, (wr.alloc o).cell? _ = some (.int .i64 x.hi) := fun o => (World.cell?_alloc_lt _ _ _ hxl).trans x2
                  have y3 : ∀ o : Obj, (wr.alloc o).cell? _ = some (.bool x.fw) := fun o => (World.cell?_alloc_lt _ _ _ hxl).trans x3
                  have HY : Hid (zonI L (k + 1 + j) = L[k + 1 + j]) := zonI_at hlt
                  generalize L[k + 1 + j] = y at d0 d1 d2 d3 HY
                  obtain ⟨cb, HCB⟩ : ∃ cb, Hid (clashZ x y = cb) := ⟨_, hideIt rfl⟩
                  have HC2 := hideIt (HCL.out y)
                  rw [HCB.out] at HC2
                  clear hny
                  go_wp2_with fail
                  refine (HC2.out _).mono ?_
                  rintro e w4 ⟨rfl, hb4⟩
                  cases cb
                  · have R1 : Hid (∀ k', k < k' → k' < k + 1 + (j + 1) → clashZ x (zonI L k') = false) := fun k' h1 h2 => by
                      by_cases e : k' = k + 1 + j
                      · subst e; rw [HY.out]; exact HCB.out
                      · exact HBB.out k' h1 (by omega)
                    have R2 := hideIt ((HNY.out.alloc HNY.out.size (.cells #[.int .i64 y.v, .int .i64 y.lo, .int .i64 y.hi, .bool y.fw] 36)).trans (hb4.mono (Nat.le_trans HNY.out.size (by simp))))
                    clear hb4
                    go_wp2
                    go_roundw
                    case rel => exact ⟨j + 1, by omega, by go_num, R1.out, R2.out⟩
                    case measure => simp [intOf]; omega
                  · have R1 : Hid (FTold L false x.v y.v) := .inr ⟨k, k + 1 + j, by omega, hlt, by rw [HX.out, HY.out]; exact HCB.out, HA.out, fun k' h1 h2 => by rw [HX.out]; exact HBB.out k' h1 h2, rfl, by rw [HX.out], by rw [HY.out]⟩
                    have R2 := hideIt ((belA HBW.out (.cells #[.int .i64 y.v, .int .i64 y.lo, .int .i64 y.hi, .bool y.fw] 36)).trans (hb4.mono (Nat.le_trans HBW.out.size (by simp))))
                    have z0 : w4.cell? ⟨_, 0, none⟩ = some (.int .i64 x.v) := (hb4.cell (Nat.lt_trans hxl (size_lt_alloc _ _))).trans (y0 _)
                    have z1 : w4.cell? ⟨wr.heap.size, 0, none⟩ = some (.int .i64 y.v) := (hb4.cell (by simp)).trans (by simp)
                    clear hb4
                    go_wp2_with fail
                    go_big_quiet (fail)
                    go_wp2
                    (try simp only [Exit.inBlock, Exit.then]); refine bodyPost_ret (results_tmp4 rfl _ _ _) rfl ?_
                    exact ⟨0, L, false, x.v, y.v, by simp [toldV], HT.out, fun _ => R1.out, fun h => absurd rfl h, belJ HB1.out (below_drewN R2.out _)⟩
              · have R1 : Hid (∀ i' k', i' < k + 1 → i' < k' → k' < L.length → clashZ (zonI L i') (zonI L k') = false) := fun i' k' h1 h2 h3 => by
                  by_cases e : i' = k
                  · subst e; rw [HX.out]; exact HBB.out k' h2 (by omega)
                  · exact HA.out i' k' (by omega) h2 h3
                go_wp2
                go_roundw
                case rel => exact ⟨k + 1, by omega, by go_num, R1.out, HBW.out⟩
                case measure => simp [intOf]; omega
      · have R1 : Hid (FTold L true 0 0) := .inl ⟨rfl, rfl, rfl, fun i' k' h1 h2 => HA.out i' k' (by omega) h1 h2⟩
        go_wp2
        (try simp only [Exit.inBlock, Exit.then]); refine bodyPost_ret (results_tmp4 rfl _ _ _) rfl ?_
        exact ⟨0, L, true, 0, 0, by simp [toldV], HT.out, fun _ => R1.out, fun h => absurd rfl h, belJ HB1.out HNX.out⟩
  · have e : toldV n = .iface 24 (.int .i64 n) := by simp [toldV, hn]
    rw [e]
    have HE := hideIt e
    clear e
    go_wp2
    (try simp only [Exit.inBlock, Exit.then]); refine bodyPost_ret (results_tmp4 rfl _ _ _) rfl ?_
    exact ⟨n, L, false, 0, 0, by rw [HE.out]; rfl, HT.out, fun h => absurd h hn, fun _ => ⟨rfl, rfl, rfl⟩, HB1.out⟩

end Go.Proofs.YtelndpbkheoeaaaDoor
