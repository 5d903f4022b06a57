/-
  The document's graph of clashes, walked.
-/
import Derived.Test.YtibdchahallbjabDoorBkW
import Derived.Test.YtibdchahallbjabDoorCsW
namespace Go.Proofs.YtibdchahallbjabDoor
open Go.RowKit

/-- Two steps clash. -/
def clB (a b : Stp) : Bool := a.p != b.p && (a.m == b.m && decide (2 < a.k + b.k))
/-- What of the graph is laid behind i steps, and j that stand behind the next one. -/
def SgK (d : List Stp) (i j : Nat) (t u : Nat) : Prop := ∃ p q, p < q ∧ q < d.length ∧ (p < i ∨ (p = i ∧ q < i + 1 + j)) ∧ (stZ d p).p = (t : Int) ∧ (stZ d q).p = (u : Int) ∧ clB (stZ d p) (stZ d q) = true
theorem sgK_zero (d : List Stp) (t u : Nat) : ¬ SgK d 0 0 t u := by
  rintro ⟨p, q, h1, h2, h3 | ⟨h3, h4⟩, _⟩ <;> omega
theorem sgK_next {d : List Stp} {i j : Nat} (h : i + 1 + j < d.length) (t u : Nat) : SgK d i (j + 1) t u ↔ SgK d i j t u ∨ ((stZ d i).p = (t : Int) ∧ (stZ d (i + 1 + j)).p = (u : Int) ∧ clB (stZ d i) (stZ d (i + 1 + j)) = true) := by
  constructor
  · rintro ⟨p, q, h1, h2, h3, h4, h5, h6⟩
    by_cases e : p = i ∧ q = i + 1 + j
    · obtain ⟨rfl, rfl⟩ := e
      exact .inr ⟨h4, h5, h6⟩
    · exact .inl ⟨p, q, h1, h2, by omega, h4, h5, h6⟩
  · rintro (⟨p, q, h1, h2, h3, h4, h5, h6⟩ | ⟨h4, h5, h6⟩)
    · exact ⟨p, q, h1, h2, by omega, h4, h5, h6⟩
    · exact ⟨i, i + 1 + j, by omega, h, by omega, h4, h5, h6⟩
theorem sgK_over {d : List Stp} {i j : Nat} (h : d.length ≤ i + 1 + j) (t u : Nat) : SgK d i j t u ↔ SgK d (i + 1) 0 t u := by
  constructor
  · rintro ⟨p, q, h1, h2, h3, h4⟩
    exact ⟨p, q, h1, h2, by omega, h4⟩
  · rintro ⟨p, q, h1, h2, h3, h4⟩
    exact ⟨p, q, h1, h2, by omega, h4⟩
/-- Steps in memory, from a block on. -/
def DAt (w : World) (a : Option Addr) (S : Nat) (d : List Stp) : Prop := d = [] ∨ ∃ b off, a = some ⟨b, off, none⟩ ∧ S ≤ b ∧ b < w.heap.size ∧ StpsAt w b off d
theorem DAt.below {w w' : World} {a : Option Addr} {S : Nat} {d : List Stp} (h : DAt w a S d) (hb : Below w.heap.size w w') : DAt w' a S d := by
  rcases h with h | ⟨b, off, e, h1, h2, h3⟩
  · exact .inl h
  · exact .inr ⟨b, off, e, h1, Nat.lt_of_lt_of_le h2 hb.size, h3.below h2 hb⟩
theorem StpAt.other {w : World} {b off g k : Nat} {s : Stp} (h : StpAt w b off s) (hne : g ≠ b) (u : Value) : StpAt (w.setCell ⟨g, k, none⟩ u) b off s :=
  ⟨(World.cell?_setCell_other _ _ _ _ (blkNe hne)).trans h.1, (World.cell?_setCell_other _ _ _ _ (blkNe hne)).trans h.2.1, (World.cell?_setCell_other _ _ _ _ (blkNe hne)).trans h.2.2⟩
theorem DAt.set {w : World} {a : Option Addr} {S : Nat} {d : List Stp} (h : DAt w a S d) {g : Nat} (hg : g < S) (k : Nat) (u : Value) : DAt (w.setCell ⟨g, k, none⟩ u) a S d := by
  rcases h with h | ⟨b, off, e, h1, h2, h3⟩
  · exact .inl h
  · exact .inr ⟨b, off, e, h1, by simpa using h2, fun i hi => (h3 i hi).other (by omega) u⟩

theorem OutAt.hdr {w : World} {base n g off cap k : Nat} {gs : List Nat} {A : Nat → Nat → Bool} (h : OutAt w base n (.slice (some ⟨g, off, none⟩) k cap) gs A) {t : Nat} (ht : t < gs.length) :
    w.cell? ⟨g, off + t, none⟩ = some (.slice (some ⟨gs[t], 0, none⟩) n n) := by
  rcases h.row with ⟨e, _⟩ | ⟨g', off', cap', cur, e, _, _, _, _, _, hc⟩
  · cases e
  · injection e with e1 e2 e3
    injection e1 with e1
    injection e1 with e1 e4
    subst e1 e4
    have := hc t (by simpa using ht)
    rwa [List.getElem_map] at this
theorem OutAt.blk {w : World} {base n g off cap k : Nat} {gs : List Nat} {A : Nat → Nat → Bool} (h : OutAt w base n (.slice (some ⟨g, off, none⟩) k cap) gs A) {t : Nat} (ht : t < gs.length) : g ≠ gs[t] := fun e => (h.bits t ht).2.2 (by rw [← e]; rfl)

/-- What is so behind j of those that stand behind number i. -/
structure SgAt (w w1 : World) (v : Value) (gs : List Nat) (d : List Stp) (a : Option Addr) (i Z : Nat) (x : Stp) (j : Nat) (wi : World) : Prop where
  out : ∃ A, OutAt wi w.heap.size 8 v gs A ∧ ∀ t u, t < 8 → u < 8 → (A t u = true ↔ SgK d i j t u)
  row : DAt wi a w1.heap.size d
  own : StpN wi Z x
  lt : Z < wi.heap.size
  size : w1.heap.size ≤ wi.heap.size
  below : Below w.heap.size w wi
theorem SgAt.alloc {w w1 wi : World} {v : Value} {gs : List Nat} {d : List Stp} {a : Option Addr} {i Z j : Nat} {x : Stp} (h : SgAt w w1 v gs d a i Z x j wi) (o : Obj) : SgAt w w1 v gs d a i Z x j (wi.alloc o) := by
  obtain ⟨A, h1, h2⟩ := h.out
  have hb : Below wi.heap.size wi (wi.alloc o) := belA (Below.refl _ _) _
  exact ⟨⟨A, h1.below hb (Nat.le_refl _), h2⟩, h.row.below hb, h.own.below hb h.lt, Nat.lt_of_lt_of_le h.lt hb.size, Nat.le_trans h.size hb.size, belA h.below _⟩
theorem SgAt.skip {w w1 wi : World} {v : Value} {gs : List Nat} {d : List Stp} {a : Option Addr} {i Z j : Nat} {x : Stp} (h : SgAt w w1 v gs d a i Z x j wi) (hj : i + 1 + j < d.length) (hc : clB (stZ d i) (stZ d (i + 1 + j)) = false) : SgAt w w1 v gs d a i Z x (j + 1) wi := by
  obtain ⟨A, h1, h2⟩ := h.out
  refine ⟨⟨A, h1, fun t u ht hu => ?_⟩, h.row, h.own, h.lt, h.size, h.below⟩
  rw [h2 t u ht hu, sgK_next hj, hc]
  simp
theorem SgAt.put {w w1 wi : World} {v : Value} {gs : List Nat} {d : List Stp} {a : Option Addr} {i Z j : Nat} {x : Stp} (h : SgAt w w1 v gs d a i Z x j wi) (hnd : gs.Nodup) (hlo : ∀ i (h : i < gs.length), gs[i] < w1.heap.size) (hZ : w1.heap.size ≤ Z) (hj : i + 1 + j < d.length) (hc : clB (stZ d i) (stZ d (i + 1 + j)) = true)
    {t u : Nat} (ht : t < gs.length) (hu : u < 8) (et : (stZ d i).p = (t : Int)) (eu : (stZ d (i + 1 + j)).p = (u : Int)) : SgAt w w1 v gs d a i Z x (j + 1) (wi.setCell ⟨gs[t], u, none⟩ (.bool true)).drew := by
  obtain ⟨A, h1, h2⟩ := h.out
  have hg := hlo t ht
  have hO := h1.put hnd ht hu true
  have hD := h.row.set hg u (.bool true)
  obtain ⟨n0, n1, n2⟩ := h.own
  have hne : gs[t] ≠ Z := by omega
  have hsz : w1.heap.size ≤ (wi.setCell ⟨gs[t], u, none⟩ (.bool true)).heap.size := by simpa using h.size
  have hlt : Z < (wi.setCell ⟨gs[t], u, none⟩ (.bool true)).heap.size := by simpa using h.lt
  refine ⟨⟨fun p q => if p = t ∧ q = u then true else A p q, ⟨hO.row, fun j hj => ⟨⟨(hO.bits j hj).1.blk, (hO.bits j hj).1.bit⟩, (hO.bits j hj).2⟩⟩, fun p q hp hq => ?_⟩, hD, ⟨(World.cell?_setCell_other _ _ _ _ (blkNe hne)).trans n0, (World.cell?_setCell_other _ _ _ _ (blkNe hne)).trans n1, (World.cell?_setCell_other _ _ _ _ (blkNe hne)).trans n2⟩, hlt, hsz, (h.below.setCell (h1.bits t ht).2.1 _).drew⟩
  show (if p = t ∧ q = u then true else A p q) = true ↔ _
  rw [sgK_next hj, hc, et, eu]
  by_cases e : p = t ∧ q = u
  · obtain ⟨rfl, rfl⟩ := e
    simp
  · rw [if_neg e, h2 p q hp hq]
    constructor
    · exact fun h => .inl h
    · rintro (h | ⟨h3, h4, _⟩)
      · exact h
      · exact absurd ⟨by omega, by omega⟩ e

/-- What the document's graph tells. -/
def SgTold (l : List Stp) (w : World) (e : Ending) (w' : World) : Prop :=
  ∃ v gs A, e = .returned v ∧ OutAt w' w.heap.size 8 v gs A ∧ gs.length = 8 ∧ (∀ t u, t < 8 → u < 8 → (A t u = true ↔ SgK (doneL l) (doneL l).length 0 t u)) ∧ Below w.heap.size w w'

set_option maxRecDepth 100000 in
set_option maxHeartbeats 4000000 in
theorem rSGraph_any (l : List Stp) (ok : ∀ s ∈ l, fltR s = 0) (a : Option Addr) (cap : Nat) (w : World) (hn : l.length ≤ 100) (hl : StpsQ w a l) :
    Calls Tryd.prog 24 #[.slice a l.length cap] w fun e w' => SgTold l w e w' := by
  have HL := hideIt hl
  have HOk : Hid (∀ s ∈ doneL l, (0 ≤ s.p ∧ s.p ≤ 7) ∧ (1 ≤ s.k ∧ s.k ≤ 2)) := fun s hs => by
    obtain ⟨h1, h2⟩ := List.mem_filter.1 hs
    obtain ⟨h3, _, h5, _⟩ := fltR_zero (ok s h1)
    unfold doneB at h2
    rw [Bool.and_eq_true, decide_eq_true_eq] at h2
    exact ⟨h3, by omega⟩
  have hdl : (doneL l).length ≤ 100 := Nat.le_trans (List.length_filter_le _ _) hn
  have HDn : Hid (∀ W, Below w.heap.size w W → Calls Tryd.prog 32 #[.slice a l.length cap] W fun e w' => ∃ v, e = .returned v ∧ w'.ownsRow W.heap.size 62 3 v (doneL l).length (stpC (doneL l)) ∧ Below W.heap.size W w') := fun W hW => rDone_any l a cap W hn (hl.below hW)
  clear hl ok
  unfold SgTold
  generalize doneL l = d at HOk HDn hdl ⊢
  go_enter Tryd.func24, Tryd.ntmps24
  go_wp2_with fail
  refine (blank_any 8 (by omega) w).mono ?_
  rintro e w1 ⟨v, gs, rfl, ho, hgl, hnd, hb1⟩
  obtain ⟨g0, off0, cap0, rfl⟩ : ∃ g off cap, v = .slice (some ⟨g, off, none⟩) 8 cap := by
    rcases ho.row with ⟨_, e⟩ | ⟨g, off, cap, _, e, _⟩
    · have := congrArg List.length e; simp [hgl] at this
    · exact ⟨g, off, cap, by rw [e]; simp [hgl]⟩
  have HO1 := hideIt ho
  have HB1 := hideIt hb1
  have HNd := hideIt hnd
  have HDc := hideIt (HDn.out w1 hb1)
  have HGs : Hid (∀ i (h : i < gs.length), gs[i] < w1.heap.size) := fun i hi => (ho.bits i hi).1.lt
  clear ho hb1 hnd HDn HL
  go_wp2_with fail
  refine HDc.out.mono ?_
  rintro e w2 ⟨vd, rfl, how, hb2⟩
  obtain ⟨a', cap', rfl, hcd, hq⟩ := stpsQ_own how
  have HD2 : Hid (DAt w2 a' w1.heap.size d) := by
    rcases hq with h | ⟨b, off, rfl, h1, h2⟩
    · exact .inl h
    · exact .inr ⟨b, off, rfl, (ownsRow_block how b rfl).1, h1, h2⟩
  have HO2 := hideIt (HO1.out.below hb2 (Nat.le_refl _))
  have HB2 := hideIt (belJ HB1.out hb2)
  have HSz : Hid (w1.heap.size ≤ w2.heap.size) := hb2.size
  have HW1 : Hid (w.heap.size ≤ w1.heap.size) := HB1.out.size
  clear how hb2 hq HDc HO1 HB1
  go_wp2
  go_loopw [14] (fun c wr => ∃ (i : Nat) (A : Nat → Nat → Bool), i ≤ d.length ∧ c = .int .i64 i ∧ OutAt wr w.heap.size 8 (.slice (some ⟨g0, off0, none⟩) 8 cap0) gs A ∧ (∀ t u, t < 8 → u < 8 → (A t u = true ↔ SgK d i 0 t u)) ∧ DAt wr a' w1.heap.size d ∧ w1.heap.size ≤ wr.heap.size ∧ Below w.heap.size w wr) (fun c _ => d.length - (intOf c).toNat)
  case atStart => exact ⟨0, fun _ _ => false, Nat.zero_le _, rfl, HO2.out, fun t u _ _ => ⟨fun h => (by cases h), fun h => absurd h (sgK_zero d t u)⟩, HD2.out, HSz.out, HB2.out⟩
  case round =>
    clear HO2 HD2 HSz HB2
    obtain ⟨i, A, hi, rfl, ho, hA, hd, hsz, hb⟩ := hrel
    have HO := hideIt ho
    have HA := hideIt hA
    have HD := hideIt hd
    have HB := hideIt hb
    clear ho hA hd hb
    by_cases hid : i < d.length
    · obtain ⟨b, off, rfl, hSb, hbl, hst⟩ : ∃ b off, a' = some ⟨b, off, none⟩ ∧ w1.heap.size ≤ b ∧ b < wr.heap.size ∧ StpsAt wr b off d := by
        rcases HD.out with h | h
        · subst h; simp at hid
        · exact h
      obtain ⟨c0, c1, c2⟩ := hst i hid
      have HX : Hid (stZ d i = d[i]) := stZ_at hid
      have hox := HOk.out d[i] (List.getElem_mem hid)
      have hid' : (i : Int) < d.length := by omega
      generalize d[i] = x at c0 c1 c2 HX hox
      clear hst
      have HSA : Hid (SgAt w w1 (.slice (some ⟨g0, off0, none⟩) 8 cap0) gs d (some ⟨b, off, none⟩) i wr.heap.size x 0 (wr.alloc (.cells #[.int .i64 x.p, .int .i64 x.k, .int .i64 x.m] 62))) := by
        have hb : Below wr.heap.size wr (wr.alloc (.cells #[.int .i64 x.p, .int .i64 x.k, .int .i64 x.m] 62)) := belA (Below.refl _ _) _
        exact ⟨⟨A, HO.out.below hb (Nat.le_refl _), HA.out⟩, HD.out.below hb, ⟨by simp, by simp, by simp⟩, by simp, by simp; omega, belA HB.out _⟩
      go_upto_region 7 with fail
      case' inl =>
           obtain rfl : cap' = i + 1 := by assumption
           have HS2 : Hid (∃ o2 c2, Value.slice (some ⟨b, off, none⟩) (d.length - (i + 1)) 0 = .slice (some ⟨b, o2, none⟩) (d.length - (i + 1)) c2 ∧ (o2 = off + (i + 1) * 3 ∨ d.length - (i + 1) = 0)) := ⟨_, _, rfl, .inr (by omega)⟩
           generalize Value.slice (some ⟨b, off, none⟩) (d.length - (i + 1)) 0 = s2 at HS2 ⊢
      case' inr =>
           have HS2 : Hid (∃ o2 c2, Value.slice (some ⟨b, off + (i + 1) * 3, none⟩) (d.length - (i + 1)) (cap' - (i + 1)) = .slice (some ⟨b, o2, none⟩) (d.length - (i + 1)) c2 ∧ (o2 = off + (i + 1) * 3 ∨ d.length - (i + 1) = 0)) := ⟨_, _, rfl, .inl rfl⟩
           generalize Value.slice (some ⟨b, off + (i + 1) * 3, none⟩) (d.length - (i + 1)) (cap' - (i + 1)) = s2 at HS2 ⊢
      all_goals
        obtain ⟨o2, k2, rfl, ho2⟩ := HS2.out
        clear HS2 HO HD HB HA c0 c1 c2
        generalize wr.alloc (.cells #[.int .i64 x.p, .int .i64 x.k, .int .i64 x.m] 62) = WA at HSA ⊢
        generalize wr.heap.size = Z at HSA hsz hbl ⊢
        obtain ⟨m, hm⟩ : ∃ m, d.length - (i + 1) = m := ⟨_, rfl⟩
        rw [hm] at ho2 ⊢
        have hm' : i + 1 + m = d.length := by omega
        have HMd : Hid (o2 = off + (i + 1) * 3 ∨ m = 0) := ho2
        clear ho2
        have HZ1 : Hid (w1.heap.size ≤ Z) := hsz
        go_loopw [24] (fun c wi => ∃ j : Nat, j ≤ m ∧ c = .int .i64 j ∧ SgAt w w1 (.slice (some ⟨g0, off0, none⟩) 8 cap0) gs d (some ⟨b, off, none⟩) i Z x j wi) (fun c _ => m - (intOf c).toNat)
        case atStart => exact ⟨0, Nat.zero_le _, rfl, HSA.out⟩
        case round =>
          clear HSA
          obtain ⟨j, hj, rfl, hs⟩ := hrel
          have HS := hideIt hs
          clear hs
          by_cases hjm : j < m
          · try (exfalso; omega)
            all_goals
              have hjd : i + 1 + j < d.length := by omega
              obtain rfl : o2 = off + (i + 1) * 3 := by have := HMd.out; omega
              obtain ⟨hst, hbl2⟩ : StpsAt wr b off d ∧ b < wr.heap.size := by
                rcases HS.out.row with h | ⟨b', off', e, _, h1, h2⟩
                · subst h; simp at hid
                · injection e with e
                  injection e with e1 e2
                  subst e1 e2
                  exact ⟨h2, h1⟩
              obtain ⟨c0, c1, c2⟩ := hst (i + 1 + j) hjd
              rw [Nat.add_mul, ← Nat.add_assoc] at c0 c1 c2
              have HY : Hid (stZ d (i + 1 + j) = d[i + 1 + j]) := stZ_at hjd
              have hoy := HOk.out d[i + 1 + j] (List.getElem_mem hjd)
              have hjm' : (j : Int) < m := by omega
              generalize d[i + 1 + j] = y at c0 c1 c2 HY hoy
              clear hst
              have HSY := hideIt (HS.out.alloc (.cells #[.int .i64 y.p, .int .i64 y.k, .int .i64 y.m] 62))
              obtain ⟨x0, x1, x2⟩ := HS.out.own
              have hzl := HS.out.lt
              have HNx : Hid (clB x y = false → SgAt w w1 (.slice (some ⟨g0, off0, none⟩) 8 cap0) gs d (some ⟨b, off, none⟩) i Z x (j + 1) (wr.alloc (.cells #[.int .i64 y.p, .int .i64 y.k, .int .i64 y.m] 62))) := fun hc => HSY.out.skip hjd (by rw [HX.out, HY.out]; exact hc)
              by_cases hp : x.p = y.p
              · have HC : Hid (clB x y = false) := by unfold clB; simp [Hid, hp]
                go_wp2
                go_roundw
                case rel => exact ⟨j + 1, by omega, by go_num, HNx.out HC.out⟩
                case measure => simp [intOf]; omega
              by_cases hk : x.m = y.m
              · by_cases hg : 2 < x.k + y.k
                · have HC : Hid (clB x y = true) := by unfold clB; simp [Hid, hp, hk, hg]
                  go_upto_region 10 with fail
                  clear HNx
                  obtain ⟨A', q1, q2⟩ := HSY.out.out
                  obtain ⟨t, ht⟩ := Int.eq_ofNat_of_zero_le hox.1.1
                  obtain ⟨u, hu⟩ := Int.eq_ofNat_of_zero_le hoy.1.1
                  have ht8 : t < 8 := by omega
                  have hu8 : u < 8 := by omega
                  have htl : t < gs.length := by omega
                  have hlo := HGs.out t htl
                  have HP := hideIt (HSY.out.put HNd.out HGs.out HZ1.out hjd (by rw [HX.out, HY.out]; exact HC.out) htl hu8 (by rw [HX.out]; exact ht) (by rw [HY.out]; exact hu))
                  have f0 := q1.hdr htl
                  have n2 : gs[t] ≠ g0 := (q1.blk htl).symm
                  have z0 := (q1.bits t htl).1.fz u
                  have z1 := (q1.bits t htl).1.bit u hu8
                  have n1 : gs[t] ≠ Z := by have := HZ1.out; omega
                  have n3 : gs[t] ≠ wr.heap.size := by have := HZ1.out; omega
                  have x3 := HSY.out.own.1
                  have y3 : (wr.alloc (.cells #[.int .i64 y.p, .int .i64 y.k, .int .i64 y.m] 62)).cell? ⟨wr.heap.size, 0, none⟩ = some (.int .i64 (u : Int)) := by rw [← hu]; simp
                  rw [ht] at x3
                  have ht8' : (t : Int) < 8 := by omega
                  have hu8' : (u : Int) < 8 := by omega
                  clear q1 q2 HC HSY
                  generalize A' t u = au at z1
                  clear A'
                  generalize wr.alloc (.cells #[.int .i64 y.p, .int .i64 y.k, .int .i64 y.m] 62) = WY at *
                  generalize gs[t] = gt at *
                  refine wp_region_held_drew (S := (fun w' => w'.cell? ⟨Z, 0, none⟩ = some (.int .i64 t) ∧ w'.cell? ⟨g0, off0 + t, none⟩ = some (.slice (some ⟨gt, 0, none⟩) 8 8) ∧ w'.cell? ⟨wr.heap.size, 0, none⟩ = some (.int .i64 u))) (by kernel_rfl) ⟨x3, f0, y3⟩ (fun hHeld => ?_)
                  refine wpAnyH_take (i := 0) (v := ?_) rfl (by kernel_rfl) (by kernel_rfl) (by kernel_rfl) (fun _ _ _ h => h) (Or.inl ⟨by rfl, ?_⟩) (by assumption) ?_
                  rotate_left 1
                  · intro wz ⟨s0, s1, s2⟩
                    go_simp
                    all_goals with_reducible rfl
                  simp only [Act.put, List.setIfInBounds_toArray, List.set_cons_zero, List.set_cons_succ, List.getElem_toArray, List.getElem_cons_zero]
                  refine wpAnyH_take (i := 1) (v := ?_) rfl (by kernel_rfl) (by kernel_rfl) (by kernel_rfl) (fun _ _ _ h => h) (Or.inl ⟨by rfl, ?_⟩) (by assumption) ?_
                  rotate_left 1
                  · intro wz ⟨s0, s1, s2⟩
                    go_simp
                    all_goals with_reducible rfl
                  simp only [Act.put, List.setIfInBounds_toArray, List.set_cons_zero, List.set_cons_succ, List.getElem_toArray, List.getElem_cons_zero, List.getElem_cons_succ]
                  refine wpAnyH_take (i := 2) (v := ?_) rfl (by kernel_rfl) (by kernel_rfl) (by kernel_rfl) (fun _ _ _ h => h) (Or.inl ⟨by rfl, ?_⟩) (by assumption) ?_
                  rotate_left 1
                  · intro wz ⟨s0, s1, s2⟩
                    go_simp
                    all_goals with_reducible rfl
                  simp only [Act.put, List.setIfInBounds_toArray, List.set_cons_zero, List.set_cons_succ, List.getElem_toArray, List.getElem_cons_zero, List.getElem_cons_succ]
                  refine wpAnyH_take (i := 3) (v := ?_) rfl (by kernel_rfl) (by kernel_rfl) (by kernel_rfl) (fun _ _ _ h => h) (Or.inl ⟨by rfl, ?_⟩) (by assumption) ?_
                  rotate_left 1
                  · intro wz ⟨s0, s1, s2⟩
                    go_simp
                    all_goals with_reducible rfl
                  simp only [Act.put, List.setIfInBounds_toArray, List.set_cons_zero, List.set_cons_succ, List.getElem_toArray, List.getElem_cons_zero, List.getElem_cons_succ]
                  refine wpAnyH_take (i := 4) (v := ?_) rfl (by kernel_rfl) (by kernel_rfl) (by kernel_rfl) (fun _ _ _ h => h) (Or.inl ⟨by rfl, ?_⟩) (by assumption) ?_
                  rotate_left 1
                  · intro wz ⟨s0, s1, s2⟩
                    go_simp
                    all_goals with_reducible rfl
                  simp only [Act.put, List.setIfInBounds_toArray, List.set_cons_zero, List.set_cons_succ, List.getElem_toArray, List.getElem_cons_zero, List.getElem_cons_succ]
                  refine wpAnyH_take (i := 5) (v := ?_) rfl (by kernel_rfl) (by kernel_rfl) (by kernel_rfl) (fun _ _ _ h => h) (Or.inl ⟨by rfl, ?_⟩) (by assumption) ?_
                  rotate_left 1
                  · intro wz ⟨s0, s1, s2⟩
                    go_simp
                    all_goals with_reducible rfl
                  simp only [Act.put, List.setIfInBounds_toArray, List.set_cons_zero, List.set_cons_succ, List.getElem_toArray, List.getElem_cons_zero, List.getElem_cons_succ]
                  refine wpAnyH_take (i := 6) (v := ?_) rfl (by kernel_rfl) (by kernel_rfl) (by kernel_rfl) (fun _ _ _ h => h) (Or.inl ⟨by rfl, ?_⟩) (by assumption) ?_
                  rotate_left 1
                  · intro wz ⟨s0, s1, s2⟩
                    go_simp
                    all_goals with_reducible rfl
                  simp only [Act.put, List.setIfInBounds_toArray, List.set_cons_zero, List.set_cons_succ, List.getElem_toArray, List.getElem_cons_zero, List.getElem_cons_succ]
                  refine wpAnyH_take (i := 7) (v := ?_) rfl (by kernel_rfl) (by kernel_rfl) (by kernel_rfl) (fun _ _ _ h => h) (Or.inl ⟨by rfl, ?_⟩) (by assumption) ?_
                  rotate_left 1
                  · intro wz ⟨s0, s1, s2⟩
                    go_simp
                    all_goals with_reducible rfl
                  simp only [Act.put, List.setIfInBounds_toArray, List.set_cons_zero, List.set_cons_succ, List.getElem_toArray, List.getElem_cons_zero, List.getElem_cons_succ]
                  refine wpAnyH_ready (rs := [8]) (by kernel_rfl) (by simp) (AllReadyH.cons rfl (fun K hK => ?_) AllReadyH.nil)
                  go_simp
                  refine hK.out _ _ ?_ (fun hHeld => ?_)
                  · exact ⟨(World.cell?_setCell_other _ _ _ _ (blkNe n1)).trans hHeld.1, (World.cell?_setCell_other _ _ _ _ (blkNe n2)).trans hHeld.2.1, (World.cell?_setCell_other _ _ _ _ (blkNe n3)).trans hHeld.2.2⟩
                  clear hK K
                  refine wpAnyH_done (by kernel_rfl) ?_ _
                  go_wp2
                  go_roundw
                  case rel => exact ⟨j + 1, by omega, by go_num, HP.out⟩
                  case measure => simp [intOf]; omega
                · have HC : Hid (clB x y = false) := by unfold clB; simp [Hid, hg]
                  go_wp2
                  go_roundw
                  case rel => exact ⟨j + 1, by omega, by go_num, HNx.out HC.out⟩
                  case measure => simp [intOf]; omega
              · have HC : Hid (clB x y = false) := by unfold clB; simp [Hid, hk]
                go_wp2
                go_roundw
                case rel => exact ⟨j + 1, by omega, by go_num, HNx.out HC.out⟩
                case measure => simp [intOf]; omega
          · obtain rfl : j = m := by omega
            have HOv : Hid (∃ A, OutAt wr w.heap.size 8 (.slice (some ⟨g0, off0, none⟩) 8 cap0) gs A ∧ ∀ t u, t < 8 → u < 8 → (A t u = true ↔ SgK d (i + 1) 0 t u)) := by
              obtain ⟨A, h1, h2⟩ := HS.out.out
              exact ⟨A, h1, fun t u ht hu => (h2 t u ht hu).trans (sgK_over (by omega) t u)⟩
            go_wp2
            go_roundw
            case rel =>
              obtain ⟨A, h1, h2⟩ := HOv.out
              exact ⟨i + 1, A, by omega, by go_num, h1, h2, HS.out.row, HS.out.size, HS.out.below⟩
            case measure => simp [intOf]; omega
    · obtain rfl : i = d.length := by omega
      go_wp2
      go_ret
      exact ⟨_, gs, A, rfl, HO.out, hgl, HA.out, HB.out⟩
end Go.Proofs.YtibdchahallbjabDoor
