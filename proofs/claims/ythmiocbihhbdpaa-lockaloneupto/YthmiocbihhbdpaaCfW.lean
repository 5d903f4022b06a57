/-
  The program's Careful, walked.
-/
import Derived.Test.YthmiocbihhbdpaaEnMZ
import Derived.Test.YthmiocbihhbdpaaRgLZ
import Derived.Laws.ResultCell
namespace Go.Proofs.Ythmiocbihhbdpaa
open Go.RowKit

/-- Three bools in a block of their own. -/
structure TriB (w : World) (g : Nat) (x y z : Bool) : Prop where
  blk : ∃ cur t, w.heap[g]? = some (.cells cur t (0, 0))
  c0 : w.cell? ⟨g, 0, none⟩ = some (.bool x)
  c1 : w.cell? ⟨g, 1, none⟩ = some (.bool y)
  c2 : w.cell? ⟨g, 2, none⟩ = some (.bool z)
theorem TriB.lt {w : World} {g : Nat} {x y z : Bool} (h : TriB w g x y z) : g < w.heap.size := by
  obtain ⟨cur, t, hc⟩ := h.blk
  exact lt_of_heap hc
theorem TriB.fz {w : World} {g : Nat} {x y z : Bool} (h : TriB w g x y z) (i : Nat) : w.frozen? ⟨g, i, none⟩ = false := by
  obtain ⟨cur, t, hc⟩ := h.blk
  exact frozen_of_row w g i cur t hc
theorem TriB.block {w w' : World} {g : Nat} {x y z : Bool} (h : TriB w g x y z) (hb : w'.heap[g]? = w.heap[g]?) : TriB w' g x y z := by
  obtain ⟨cur, t, hc⟩ := h.blk
  exact ⟨⟨cur, t, hb.trans hc⟩, (World.cell?_of_block (a := ⟨g, 0, none⟩) hb).trans h.c0, (World.cell?_of_block (a := ⟨g, 1, none⟩) hb).trans h.c1, (World.cell?_of_block (a := ⟨g, 2, none⟩) hb).trans h.c2⟩
theorem TriB.below {B : Nat} {w w' : World} {g : Nat} {x y z : Bool} (h : TriB w g x y z) (hb : Below B w w') (hg : g < B) : TriB w' g x y z := h.block (hb.block g hg)
theorem TriB.other {w : World} {g : Nat} {x y z : Bool} (h : TriB w g x y z) {p : Addr} (hp : g ≠ p.block) (u : Value) : TriB (w.setCell p u) g x y z := h.block (Below.heap_setCell w p u g hp)
theorem TriB.put0 {w : World} {g : Nat} {x y z : Bool} (h : TriB w g x y z) (u : Bool) : TriB (w.setCell ⟨g, 0, none⟩ (.bool u)) g u y z := by
  obtain ⟨cur, t, hc⟩ := h.blk
  obtain ⟨cur', hc', _⟩ := heap_setCell hc 0 (.bool u)
  exact ⟨⟨cur', t, hc'⟩, World.cell?_setCell_same _ _ _ h.c0, (World.cell?_setCell_other _ _ _ _ (offN (by decide))).trans h.c1, (World.cell?_setCell_other _ _ _ _ (offN (by decide))).trans h.c2⟩
theorem TriB.put1 {w : World} {g : Nat} {x y z : Bool} (h : TriB w g x y z) (u : Bool) : TriB (w.setCell ⟨g, 1, none⟩ (.bool u)) g x u z := by
  obtain ⟨cur, t, hc⟩ := h.blk
  obtain ⟨cur', hc', _⟩ := heap_setCell hc 1 (.bool u)
  exact ⟨⟨cur', t, hc'⟩, (World.cell?_setCell_other _ _ _ _ (offN (by decide))).trans h.c0, World.cell?_setCell_same _ _ _ h.c1, (World.cell?_setCell_other _ _ _ _ (offN (by decide))).trans h.c2⟩
theorem TriB.put2 {w : World} {g : Nat} {x y z : Bool} (h : TriB w g x y z) (u : Bool) : TriB (w.setCell ⟨g, 2, none⟩ (.bool u)) g x y u := by
  obtain ⟨cur, t, hc⟩ := h.blk
  obtain ⟨cur', hc', _⟩ := heap_setCell hc 2 (.bool u)
  exact ⟨⟨cur', t, hc'⟩, (World.cell?_setCell_other _ _ _ _ (offN (by decide))).trans h.c0, (World.cell?_setCell_other _ _ _ _ (offN (by decide))).trans h.c1, World.cell?_setCell_same _ _ _ h.c2⟩
theorem triB_new (w : World) (x y z : Bool) : TriB (w.alloc (.cells #[.bool x, .bool y, .bool z] 36)) w.heap.size x y z := ⟨⟨_, _, heap_alloc_new w _⟩, by simp, by simp, by simp⟩

theorem results_two {fn : Func} {p u : Tmp} {ty : TypeId} (h : fn.results = #[.cell p ty, .tmp u]) (tmps : Array Value) (w : World) (g : Nat) (v : Value)
    (hp : tmps.getD p undef = .pointer (some ⟨g, 0, none⟩)) (hl : (loadVar ty ⟨g, 0, none⟩).run Try.prog w = .ok v w) : (results fn tmps).run Try.prog w = .ok (.tuple #[v, tmps.getD u undef]) w := by
  rw [results_cell_tmp h]
  simp only [hp, asAddr, Sem.run_pure, Result.andThen_ok, hl]
theorem load48 {w : World} {g : Nat} {x y z : Bool} (h : TriB w g x y z) : (loadVar 36 ⟨g, 0, none⟩).run Try.prog w = .ok (.agg #[.bool x, .bool y, .bool z]) w :=
  run_loadVar_mid w g 0 36 [.bool x, .bool y, .bool z] _ (fun j u hu => by
    match j, hu with
    | 0, hu => simp at hu; subst hu; exact h.c0
    | 1, hu => simp at hu; subst hu; exact h.c1
    | 2, hu => simp at hu; subst hu; exact h.c2) Try.underlying36 rfl (by kernel_rfl)
theorem ErrAt.turn {w : World} {v : Value} {n pl : Int} {B o : Nat} {y : Bool} {x : Value} (h : ErrAt w v n pl) (hB : ∃ y, w.cell? ⟨B, 0, none⟩ = some (.bool y)) (hx : x = .bool y) : ErrAt (w.setCell ⟨B, o, none⟩ x) v n pl ∧ ∃ y, (w.setCell ⟨B, o, none⟩ x).cell? ⟨B, 0, none⟩ = some (.bool y) := by
  obtain ⟨z, hz⟩ := hB
  subst hx
  constructor
  · rcases h with h | h | ⟨h1, h2, g, rfl, hg, c0, c1⟩
    · exact .inl h
    · exact .inr (.inl h)
    · have hne : B ≠ g := fun e => by subst e; rw [hz] at c0; cases c0
      exact .inr (.inr ⟨h1, h2, g, rfl, by simpa using hg, (World.cell?_setCell_other _ _ _ _ (blkNe hne)).trans c0, (World.cell?_setCell_other _ _ _ _ (blkNe hne)).trans c1⟩)
  · by_cases e : o = 0
    · subst e; exact ⟨y, World.cell?_setCell_same _ _ _ hz⟩
    · exact ⟨z, (World.cell?_setCell_other _ _ _ _ (offN e)).trans hz⟩
theorem openW_tx {l : List Stp} (ok : OkS l) {n : Nat} (hn : n < l.length) {t : Int} (h : openW l n = some t) : 0 ≤ t ∧ t ≤ 7 := by
  unfold openW at h
  split at h
  · cases h
  · split at h
    · cases h
    · rename_i m hm
      split at h
      · cases h
      · obtain rfl := Option.some.inj h
        exact ok.tx (Nat.lt_trans (lastN_some hm).1 hn)
/-- What Careful tells: an error and its place; or three times whether nothing speaks against it. -/
def CfTold (l : List Stp) (w : World) (e : Ending) (w' : World) : Prop :=
  ∃ r c s er n pl, e = .returned (.tuple #[.agg #[.bool r, .bool c, .bool s], er]) ∧ ErrAt w' er n pl ∧ CkS l n pl ∧ (n ≠ 0 → r = false ∧ c = false ∧ s = false) ∧ (n = 0 → r = noneB (badR l) l.length ∧ c = noneB (badC l) l.length ∧ s = noneB (badS l) l.length) ∧ Below w.heap.size w w'

/-- What is so behind k steps. -/
structure CfAt (w : World) (l : List Stp) (E : Nat) (f : Nat → Int) (k : Nat) (wr : World) : Prop where
  res : TriB wr w.heap.size false false false
  tri : TriB wr (E + 1) (noneB (badR l) k) (noneB (badC l) k) (noneB (badS l) k)
  ends : EndB wr E f
  bel : Below w.heap.size w wr

set_option maxRecDepth 100000 in
set_option maxHeartbeats 8000000 in
theorem careful_any (l : List Stp) (a : Option Addr) (cap : Nat) (w : World) (hmax : l.length ≤ maxLen) (hl : StpsQ w a l) :
    Calls Try.prog 8 #[.slice a l.length cap] w fun e w' => CfTold l w e w' := by
  have hm2 : l.length ≤ 9223372036854775807 := hmax
  have HL := hideIt hl
  have HT0 := hideIt (triB_new w false false false)
  have HB0 : Hid (Below w.heap.size w (w.alloc (.cells #[.bool false, .bool false, .bool false] 36))) := belA (Below.refl _ _) _
  have HC := hideIt (sCheck_any l a cap (w.alloc (.cells #[.bool false, .bool false, .bool false] 36)) hmax (hl.below (belA (Below.refl _ _) _)))
  have hs0 : (w.alloc (.cells #[.bool false, .bool false, .bool false] 36)).heap.size = w.heap.size + 1 := by simp
  clear hl
  unfold CfTold
  go_enter Try.func8, Try.ntmps8
  go_wp2_with fail
  refine HC.out.mono ?_
  clear HC
  rintro e w1 ⟨v1, n, pl, rfl, her, hck, hb1⟩
  have HE := hideIt her
  have HK := hideIt hck
  have HB1 := hideIt (belJ HB0.out hb1)
  have HT1 := hideIt (HT0.out.below hb1 (by rw [hs0]; exact Nat.lt_succ_self _))
  clear her hck hb1 HB0 HT0 hs0
  by_cases hn0 : n = 0
  · subst hn0
    obtain ⟨h60, hok, rfl⟩ := HK.out.ok
    have hnil : v1 = .nilIface := by
      rcases HE.out with ⟨_, _, h⟩ | ⟨h, _⟩ | ⟨h, _⟩
      · exact h
      · exact absurd rfl h
      · exact absurd rfl h
    subst hnil
    have HOk : Hid (OkS l) := hok
    clear hok
    have HC := hideIt (endsOf_any l HOk.out a cap w1 (by omega) (HL.out.below HB1.out))
    have HOp : Hid (∀ k W, k < l.length → StpsQ W a l → Calls Try.prog 20 #[endA (enQ l), .slice a l.length cap, .int .i64 (k : Nat)] W fun e w' => e = .returned (.int .i64 (opV l k)) ∧ Below W.heap.size W w') := fun k W hk hq => open_any l HOk.out a cap k W (by omega) hk hq
    obtain ⟨f, hf⟩ : ∃ f, f = enQ l := ⟨_, rfl⟩
    have HR : Hid (∀ t : Nat, t < 8 → f (t * 2) = endK l 3 (t : Int)) := fun t ht => by
      rw [hf]
      unfold enQ
      rw [if_pos (by omega), show t * 2 / 2 = t by omega]
    rw [← hf] at HC HOp
    clear hf
    unfold endA at HC HOp
    go_wp2_with fail
    refine HC.out.mono ?_
    clear HC
    rintro e w2 ⟨rfl, hb2⟩
    have HB2 := hideIt (belJ HB1.out hb2)
    have HT2 := hideIt (HT1.out.below hb2 HT1.out.lt)
    have hRl := HT2.out.lt
    have HAt0 : Hid (CfAt w l w2.heap.size f 0 ((w2.alloc (.cells #[.int .i64 (f 0), .int .i64 (f 1), .int .i64 (f 2), .int .i64 (f 3), .int .i64 (f 4), .int .i64 (f 5), .int .i64 (f 6), .int .i64 (f 7), .int .i64 (f 8), .int .i64 (f 9), .int .i64 (f 10), .int .i64 (f 11), .int .i64 (f 12), .int .i64 (f 13), .int .i64 (f 14), .int .i64 (f 15)] 68)).alloc (.cells #[.bool true, .bool true, .bool true] 36))) := by
      have b1 : Below w2.heap.size w2 (w2.alloc (.cells #[.int .i64 (f 0), .int .i64 (f 1), .int .i64 (f 2), .int .i64 (f 3), .int .i64 (f 4), .int .i64 (f 5), .int .i64 (f 6), .int .i64 (f 7), .int .i64 (f 8), .int .i64 (f 9), .int .i64 (f 10), .int .i64 (f 11), .int .i64 (f 12), .int .i64 (f 13), .int .i64 (f 14), .int .i64 (f 15)] 68)) := belA (Below.refl _ _) _
      have hs : (w2.alloc (.cells #[.int .i64 (f 0), .int .i64 (f 1), .int .i64 (f 2), .int .i64 (f 3), .int .i64 (f 4), .int .i64 (f 5), .int .i64 (f 6), .int .i64 (f 7), .int .i64 (f 8), .int .i64 (f 9), .int .i64 (f 10), .int .i64 (f 11), .int .i64 (f 12), .int .i64 (f 13), .int .i64 (f 14), .int .i64 (f 15)] 68)).heap.size = w2.heap.size + 1 := by simp
      have b2 : Below (w2.heap.size + 1) (w2.alloc (.cells #[.int .i64 (f 0), .int .i64 (f 1), .int .i64 (f 2), .int .i64 (f 3), .int .i64 (f 4), .int .i64 (f 5), .int .i64 (f 6), .int .i64 (f 7), .int .i64 (f 8), .int .i64 (f 9), .int .i64 (f 10), .int .i64 (f 11), .int .i64 (f 12), .int .i64 (f 13), .int .i64 (f 14), .int .i64 (f 15)] 68)) ((w2.alloc (.cells #[.int .i64 (f 0), .int .i64 (f 1), .int .i64 (f 2), .int .i64 (f 3), .int .i64 (f 4), .int .i64 (f 5), .int .i64 (f 6), .int .i64 (f 7), .int .i64 (f 8), .int .i64 (f 9), .int .i64 (f 10), .int .i64 (f 11), .int .i64 (f 12), .int .i64 (f 13), .int .i64 (f 14), .int .i64 (f 15)] 68)).alloc (.cells #[.bool true, .bool true, .bool true] 36)) := by
        rw [← hs]; exact belA (Below.refl _ _) _
      have hE := endB_new w2 f 68
      unfold endO at hE
      have hT := triB_new (w2.alloc (.cells #[.int .i64 (f 0), .int .i64 (f 1), .int .i64 (f 2), .int .i64 (f 3), .int .i64 (f 4), .int .i64 (f 5), .int .i64 (f 6), .int .i64 (f 7), .int .i64 (f 8), .int .i64 (f 9), .int .i64 (f 10), .int .i64 (f 11), .int .i64 (f 12), .int .i64 (f 13), .int .i64 (f 14), .int .i64 (f 15)] 68)) true true true
      rw [hs] at hT
      exact ⟨(HT2.out.below b1 hRl).below b2 (by omega), hT, hE.below b2 (by omega), belA (belA HB2.out _) _⟩
    clear hb2 HB1 HB2 HT1 HT2
    go_wp2
    generalize (w2.alloc _).alloc _ = W at HAt0 ⊢
    generalize w2.heap.size = E at HAt0 hRl ⊢
    go_loopw [21] (fun i wr => ∃ k : Nat, k ≤ l.length ∧ i = .int .i64 k ∧ CfAt w l E f k wr) (fun i _ => l.length - (intOf i).toNat)
    case atStart => exact ⟨0, Nat.zero_le _, rfl, HAt0.out⟩
    case round =>
      clear HAt0
      obtain ⟨k, hk, rfl, hat⟩ := hrel
      have HAt := hideIt hat
      clear hat
      by_cases hkl : k < l.length
      · obtain ⟨b, off, rfl, hlt, hst⟩ : ∃ b off, a = some ⟨b, off, none⟩ ∧ b < w.heap.size ∧ StpsAt w b off l := by
          rcases HL.out with h | h
          · subst h; simp at hkl
          · exact h
        obtain ⟨c0, c1, c2⟩ := (hst k hkl).below hlt HAt.out.bel
        have hkl' : (k : Int) < l.length := by omega
        have htx := HOk.out.tx hkl
        have hkd := HOk.out.kind hkl
        have HS := hideIt (noneB_succ (badS l) k)
        have HCl := hideIt (noneB_succ (badC l) k)
        have HRe := hideIt (noneB_succ (badR l) k)
        have HbS : Hid (badS l k = (openW l k).isSome) := rfl
        have HbC : Hid (badC l k = ((openW l k).isSome && (stZ l k).k == 1)) := rfl
        have HbR : Hid (∀ t, openW l k = some t → badR l k = ((stZ l k).k == 1 && decide (endK l 3 (stZ l k).p < endK l 3 t))) := fun t h => by unfold badR; rw [h]
        have HbN : Hid (openW l k = none → badR l k = false) := fun h => by unfold badR; rw [h]
        have HoT : Hid (∀ t, openW l k = some t → 0 ≤ t ∧ t ≤ 7) := fun t h => openW_tx HOk.out hkl h
        have HoV : Hid (opV l k = match openW l k with | none => -1 | some t => t) := rfl
        rw [stZ_at hkl] at htx hkd HbC HbR
        generalize l[k] = x at c0 c1 c2 htx hkd HbC HbR
        obtain ⟨xp, xk, xm⟩ := x
        dsimp only at c0 c1 c2 htx hkd HbC HbR
        obtain ⟨p, rfl⟩ : ∃ p : Nat, xp = (p : Int) := ⟨xp.toNat, by omega⟩
        have hp8 : p < 8 := by omega
        have hp8' : (p : Int) < 8 := by omega
        have hEl := HAt.out.ends.lt
        have hKl := HAt.out.tri.lt
        have HA1 : Hid (CfAt w l E f k (wr.alloc (.cells #[.int .i64 (p : Int), .int .i64 xk, .int .i64 xm] 40))) := by
          have bb : Below wr.heap.size wr (wr.alloc (.cells #[.int .i64 (p : Int), .int .i64 xk, .int .i64 xm] 40)) := belA (Below.refl _ _) _
          exact ⟨HAt.out.res.below bb HAt.out.res.lt, HAt.out.tri.below bb hKl, HAt.out.ends.below bb hEl, belA HAt.out.bel _⟩
        have HCo := hideIt (HOp.out k (wr.alloc (.cells #[.int .i64 (p : Int), .int .i64 xk, .int .i64 xm] 40)) hkl (HL.out.below HA1.out.bel))
        have d0 : (wr.alloc (.cells #[.int .i64 (p : Int), .int .i64 xk, .int .i64 xm] 40)).cell? ⟨wr.heap.size, 0, none⟩ = some (.int .i64 (p : Int)) := by simp
        have d1 : (wr.alloc (.cells #[.int .i64 (p : Int), .int .i64 xk, .int .i64 xm] 40)).cell? ⟨wr.heap.size, 1, none⟩ = some (.int .i64 xk) := by simp
        obtain ⟨y0, y1, y2, y3, y4, y5, y6, y7, y8, y9, y10, y11, y12, y13, y14, y15⟩ := HA1.out.ends.all
        clear hst HAt htx
        go_upto_region 9 with fail
        generalize wr.alloc _ = WA at HA1 HCo d0 d1 y0 y1 y2 y3 y4 y5 y6 y7 y8 y9 y10 y11 y12 y13 y14 y15 ⊢
        have hZl : wr.heap.size < WA.heap.size := World.block_lt_of_cell? WA _ d0
        generalize wr.heap.size = Z at d0 d1 hEl hKl hZl ⊢
        clear c0 c1 c2
        go_wp2_with fail
        refine HCo.out.mono ?_
        clear HCo y0 y1 y2 y3 y4 y5 y6 y7 y8 y9 y10 y11 y12 y13 y14 y15
        rintro e w3 ⟨rfl, hb3⟩
        have g0 := (hb3.cell (p := ⟨Z, 0, none⟩) hZl).trans d0
        have g1 := (hb3.cell (p := ⟨Z, 1, none⟩) hZl).trans d1
        have HA3 : Hid (CfAt w l E f k w3) := ⟨HA1.out.res.below hb3 HA1.out.res.lt, HA1.out.tri.below hb3 HA1.out.tri.lt, HA1.out.ends.below hb3 HA1.out.ends.lt, belJ HA1.out.bel hb3⟩
        clear hb3 HA1 d0 d1 hZl
        cases ho : openW l k with
        | none =>
          have hv : opV l k = -1 := by rw [HoV.out, ho]
          have R : Hid (CfAt w l E f (k + 1) w3) := by
            refine ⟨HA3.out.res, ?_, HA3.out.ends, HA3.out.bel⟩
            rw [HS.out, HCl.out, HRe.out, HbS.out, HbC.out, HbN.out ho, ho]
            simpa using HA3.out.tri
          rw [hv]
          clear HS HCl HRe HbS HbC HbR HbN HoT HoV ho hv
          go_wp2
          go_roundw
          case rel => exact ⟨k + 1, by omega, by go_num, R.out⟩
          case measure => simp [intOf]; omega
        | some q =>
          have hv : opV l k = q := by rw [HoV.out, ho]
          have hq := HoT.out q ho
          obtain ⟨u, rfl⟩ : ∃ u : Nat, q = (u : Int) := ⟨q.toNat, by omega⟩
          have hu8 : u < 8 := by omega
          have hu8' : (u : Int) < 8 := by omega
          have hu1 : ((u : Int) == -1) = false := by simp
          rw [hv]
          have HbS2 : Hid (badS l k = true) := by rw [HbS.out, ho]; rfl
          have HbC2 : Hid (badC l k = (xk == 1)) := by rw [HbC.out, ho]; rfl
          have HbR2 := hideIt (HbR.out _ ho)
          clear HoT HoV ho hv hq HbS HbC HbR HbN
          have t0 := HA3.out.tri.c0
          have t1 := HA3.out.tri.c1
          have t2 := HA3.out.tri.c2
          have tz := HA3.out.tri.fz
          have ep := HA3.out.ends.at' (q := p * 2) (by omega)
          have eu := HA3.out.ends.at' (q := u * 2) (by omega)
          rw [HR.out p hp8] at ep
          rw [HR.out u hu8] at eu
          have nKR : w.heap.size ≠ E + 1 := by omega
          have nKE : E ≠ E + 1 := by omega
          have HP2 : Hid (TriB (w3.setCell ⟨E + 1, 2, none⟩ (.bool false)) (E + 1) (noneB (badR l) k) (noneB (badC l) k) false) := HA3.out.tri.put2 false
          have HQ2 : Hid (TriB (w3.setCell ⟨E + 1, 2, none⟩ (.bool false)) w.heap.size false false false) := HA3.out.res.other (p := ⟨E + 1, 2, none⟩) nKR _
          have HE2 : Hid (EndB (w3.setCell ⟨E + 1, 2, none⟩ (.bool false)) E f) := HA3.out.ends.other (p := ⟨E + 1, 2, none⟩) nKE _
          have HB2 : Hid (Below w.heap.size w (w3.setCell ⟨E + 1, 2, none⟩ (.bool false))) := HA3.out.bel.setCell (p := ⟨E + 1, 2, none⟩) (by show w.heap.size ≤ E + 1; omega) _
          by_cases hk1 : xk = 1
          · have HP1 : Hid (TriB ((w3.setCell ⟨E + 1, 2, none⟩ (.bool false)).setCell ⟨E + 1, 1, none⟩ (.bool false)) (E + 1) (noneB (badR l) k) false false) := HP2.out.put1 false
            have HQ1 : Hid (TriB ((w3.setCell ⟨E + 1, 2, none⟩ (.bool false)).setCell ⟨E + 1, 1, none⟩ (.bool false)) w.heap.size false false false) := HQ2.out.other (p := ⟨E + 1, 1, none⟩) nKR _
            have HE1 : Hid (EndB ((w3.setCell ⟨E + 1, 2, none⟩ (.bool false)).setCell ⟨E + 1, 1, none⟩ (.bool false)) E f) := HE2.out.other (p := ⟨E + 1, 1, none⟩) nKE _
            have HB1 : Hid (Below w.heap.size w ((w3.setCell ⟨E + 1, 2, none⟩ (.bool false)).setCell ⟨E + 1, 1, none⟩ (.bool false))) := HB2.out.setCell (p := ⟨E + 1, 1, none⟩) (by show w.heap.size ≤ E + 1; omega) _
            have nZK : Z ≠ E + 1 := by omega
            have z0 : ((w3.setCell ⟨E + 1, 2, none⟩ (.bool false)).setCell ⟨E + 1, 1, none⟩ (.bool false)).cell? ⟨Z, 0, none⟩ = some (.int .i64 (p : Int)) := (World.cell?_setCell_other _ _ _ _ (blkNe (Ne.symm nZK))).trans ((World.cell?_setCell_other _ _ _ _ (blkNe (Ne.symm nZK))).trans g0)
            have HF : Hid (∀ rr : Bool, rr = noneB (badR l) k → ∀ W : World, TriB W (E + 1) rr false false → TriB W w.heap.size false false false → EndB W E f → Below w.heap.size w W → CfAt w l E f (k + 1) (W.setCell ⟨E + 1, 0, none⟩ (.bool (rr && decide ((endK l 3 (u : Int) : Int) ≤ (endK l 3 (p : Int) : Int)))))) := fun rr hr W h1 h2 h3 h4 => by
              refine ⟨h2.other (p := ⟨E + 1, 0, none⟩) nKR _, ?_, h3.other (p := ⟨E + 1, 0, none⟩) nKE _, h4.setCell (p := ⟨E + 1, 0, none⟩) (by show w.heap.size ≤ E + 1; omega) _⟩
              rw [HS.out, HCl.out, HRe.out, HbS2.out, HbC2.out, HbR2.out, hk1]
              have e : (!((1 : Int) == 1 && decide (endK l 3 (p : Int) < endK l 3 (u : Int)))) = decide ((endK l 3 (u : Int) : Int) ≤ (endK l 3 (p : Int) : Int)) := by
                rw [Bool.eq_iff_iff]; simp
              rw [e, ← hr]
              simpa using h1.put0 (rr && decide ((endK l 3 (u : Int) : Int) ≤ (endK l 3 (p : Int) : Int)))
            clear HS HCl HRe HbS2 HbC2 HbR2 HP2 HQ2 HE2 HB2 ep eu HA3
            generalize noneB (badR l) k = rr at HP1 HF t0
            generalize noneB (badC l) k = rc at t1
            generalize noneB (badS l) k = rs at t2
            rw [hk1] at g1
            clear hk1
            go_upto_region 14 with fail
            generalize (w3.setCell _ _).setCell _ _ = W1 at HP1 HQ1 HE1 HB1 z0 ⊢
            clear t0 t1 t2 tz g0 g1
            have HG := hideIt (HF.out rr rfl W1.drew (HP1.out.block rfl) (HQ1.out.block rfl) (HE1.out.block rfl) HB1.out.drew)
            have t0 := HP1.out.c0
            have tz := HP1.out.fz 0
            have ep := HE1.out.at' (q := p * 2) (by omega)
            have eu := HE1.out.at' (q := u * 2) (by omega)
            rw [HR.out p hp8] at ep
            rw [HR.out u hu8] at eu
            generalize endK l 3 (p : Int) = cp at ep HG
            generalize endK l 3 (u : Int) = cu at eu HG
            clear HF HP1 HQ1 HE1 HB1
            cases rr
            · refine wp_region_L (B := [15]) (S := (fun w' => w'.cell? ⟨Z, 0, none⟩ = some (.int .i64 (p : Int)) ∧ w'.cell? ⟨E, p * 2, none⟩ = some (.int .i64 (cp : Int)) ∧ w'.cell? ⟨E, u * 2, none⟩ = some (.int .i64 (cu : Int)))) (T := (fun w' => w'.cell? ⟨E + 1, 0, none⟩ = some (.bool false))) (by kernel_rfl) ⟨⟨z0, ep, eu⟩, t0⟩ (fun hHeld => ?_)
              refine wpAnyL_takeS (i := 0) (v := ?_) rfl (by kernel_rfl) (by kernel_rfl) (by kernel_rfl) (by kernel_rfl) (fun _ _ _ h => h) (Or.inl ⟨by rfl, ?_⟩) (by assumption) ?_
              rotate_left 1
              · intro wz ⟨s0, e0, e1⟩
                go_simp
                all_goals with_reducible rfl
              simp only [Act.put, List.setIfInBounds_toArray, List.set_cons_zero, List.set_cons_succ, List.getElem_toArray, List.getElem_cons_zero]
              refine wpAnyL_take [2, 13, 15] (i := 1) (v := ?_) rfl (by kernel_rfl) (by kernel_rfl) (by kernel_rfl) (by kernel_rfl) (fun _ _ _ h => h) (Or.inl ⟨by rfl, ?_⟩) (by assumption) ?_
              rotate_left 1
              · intro wz ⟨⟨s0, e0, e1⟩, t0⟩
                go_simp
                all_goals with_reducible rfl
              simp only [Act.put, List.setIfInBounds_toArray, List.set_cons_zero, List.set_cons_succ, List.getElem_toArray, List.getElem_cons_zero, List.getElem_cons_succ]
              refine wpAnyL_takeS (i := 2) (v := ?_) rfl (by kernel_rfl) (by kernel_rfl) (by kernel_rfl) (by kernel_rfl) (fun _ _ _ h => h) (Or.inl ⟨by rfl, ?_⟩) (by assumption) ?_
              rotate_left 1
              · intro wz ⟨s0, e0, e1⟩
                go_simp
                all_goals with_reducible rfl
              simp only [Act.put, List.setIfInBounds_toArray, List.set_cons_zero, List.set_cons_succ, List.getElem_toArray, List.getElem_cons_zero, List.getElem_cons_succ]
              refine wpAnyL_takeS (i := 3) (v := undef) rfl (by kernel_rfl) (by kernel_rfl) (by kernel_rfl) (by kernel_rfl) (fun _ _ _ h => h) (Or.inr ⟨by rfl, rfl⟩) (by assumption) ?_
              simp only [Act.put, List.setIfInBounds_toArray, List.set_cons_zero, List.set_cons_succ, List.getElem_toArray, List.getElem_cons_zero, List.getElem_cons_succ]
              refine wpAnyL_takeS (i := 4) (v := undef) rfl (by kernel_rfl) (by kernel_rfl) (by kernel_rfl) (by kernel_rfl) (fun _ _ _ h => h) (Or.inr ⟨by rfl, rfl⟩) (by assumption) ?_
              simp only [Act.put, List.setIfInBounds_toArray, List.set_cons_zero, List.set_cons_succ, List.getElem_toArray, List.getElem_cons_zero, List.getElem_cons_succ]
              refine wpAnyL_takeS (i := 5) (v := undef) rfl (by kernel_rfl) (by kernel_rfl) (by kernel_rfl) (by kernel_rfl) (fun _ _ _ h => h) (Or.inr ⟨by rfl, rfl⟩) (by assumption) ?_
              simp only [Act.put, List.setIfInBounds_toArray, List.set_cons_zero, List.set_cons_succ, List.getElem_toArray, List.getElem_cons_zero, List.getElem_cons_succ]
              refine wpAnyL_takeS (i := 6) (v := undef) rfl (by kernel_rfl) (by kernel_rfl) (by kernel_rfl) (by kernel_rfl) (fun _ _ _ h => h) (Or.inr ⟨by rfl, rfl⟩) (by assumption) ?_
              simp only [Act.put, List.setIfInBounds_toArray, List.set_cons_zero, List.set_cons_succ, List.getElem_toArray, List.getElem_cons_zero, List.getElem_cons_succ]
              refine wpAnyL_takeS (i := 7) (v := undef) rfl (by kernel_rfl) (by kernel_rfl) (by kernel_rfl) (by kernel_rfl) (fun _ _ _ h => h) (Or.inr ⟨by rfl, rfl⟩) (by assumption) ?_
              simp only [Act.put, List.setIfInBounds_toArray, List.set_cons_zero, List.set_cons_succ, List.getElem_toArray, List.getElem_cons_zero, List.getElem_cons_succ]
              refine wpAnyL_takeS (i := 8) (v := undef) rfl (by kernel_rfl) (by kernel_rfl) (by kernel_rfl) (by kernel_rfl) (fun _ _ _ h => h) (Or.inr ⟨by rfl, rfl⟩) (by assumption) ?_
              simp only [Act.put, List.setIfInBounds_toArray, List.set_cons_zero, List.set_cons_succ, List.getElem_toArray, List.getElem_cons_zero, List.getElem_cons_succ]
              refine wpAnyL_takeS (i := 9) (v := undef) rfl (by kernel_rfl) (by kernel_rfl) (by kernel_rfl) (by kernel_rfl) (fun _ _ _ h => h) (Or.inr ⟨by rfl, rfl⟩) (by assumption) ?_
              simp only [Act.put, List.setIfInBounds_toArray, List.set_cons_zero, List.set_cons_succ, List.getElem_toArray, List.getElem_cons_zero, List.getElem_cons_succ]
              refine wpAnyL_takeS (i := 10) (v := undef) rfl (by kernel_rfl) (by kernel_rfl) (by kernel_rfl) (by kernel_rfl) (fun _ _ _ h => h) (Or.inr ⟨by rfl, rfl⟩) (by assumption) ?_
              simp only [Act.put, List.setIfInBounds_toArray, List.set_cons_zero, List.set_cons_succ, List.getElem_toArray, List.getElem_cons_zero, List.getElem_cons_succ]
              refine wpAnyL_takeS (i := 11) (v := undef) rfl (by kernel_rfl) (by kernel_rfl) (by kernel_rfl) (by kernel_rfl) (fun _ _ _ h => h) (Or.inr ⟨by rfl, rfl⟩) (by assumption) ?_
              simp only [Act.put, List.setIfInBounds_toArray, List.set_cons_zero, List.set_cons_succ, List.getElem_toArray, List.getElem_cons_zero, List.getElem_cons_succ]
              refine wpAnyL_takeS (i := 12) (v := undef) rfl (by kernel_rfl) (by kernel_rfl) (by kernel_rfl) (by kernel_rfl) (fun _ _ _ h => h) (Or.inr ⟨by rfl, rfl⟩) (by assumption) ?_
              simp only [Act.put, List.setIfInBounds_toArray, List.set_cons_zero, List.set_cons_succ, List.getElem_toArray, List.getElem_cons_zero, List.getElem_cons_succ]
              refine wpAnyL_takeS (i := 13) (v := ?_) rfl (by kernel_rfl) (by kernel_rfl) (by kernel_rfl) (by kernel_rfl) (fun _ _ _ h => h) (Or.inl ⟨by rfl, ?_⟩) (by assumption) ?_
              rotate_left 1
              · intro wz ⟨s0, e0, e1⟩
                go_simp
                all_goals with_reducible rfl
              simp only [Act.put, List.setIfInBounds_toArray, List.set_cons_zero, List.set_cons_succ, List.getElem_toArray, List.getElem_cons_zero, List.getElem_cons_succ]
              refine wpAnyL_takeS (i := 14) (v := ?_) rfl (by kernel_rfl) (by kernel_rfl) (by kernel_rfl) (by kernel_rfl) (fun _ _ _ h => h) (Or.inl ⟨by rfl, ?_⟩) (by assumption) ?_
              rotate_left 1
              · intro wz ⟨s0, e0, e1⟩
                go_simp
                all_goals with_reducible rfl
              simp only [Act.put, List.setIfInBounds_toArray, List.set_cons_zero, List.set_cons_succ, List.getElem_toArray, List.getElem_cons_zero, List.getElem_cons_succ]
              refine wpAnyL_ready (rs := [15]) (by kernel_rfl) (by simp) (AllReadyL.last rfl (by kernel_rfl) (fun K hK => ?_) AllReadyL.nil)
              go_simp
              refine hK.out _ _ ?_ (fun hHeld => ?_)
              · exact ⟨(World.cell?_setCell_other _ _ _ _ (blkNe (Ne.symm nZK))).trans hHeld.1.1, (World.cell?_setCell_other _ _ _ _ (blkNe (Ne.symm nKE))).trans hHeld.1.2.1, (World.cell?_setCell_other _ _ _ _ (blkNe (Ne.symm nKE))).trans hHeld.1.2.2⟩
              clear hK K
              refine wpAnyL_done (by kernel_rfl) ?_ _
              go_wp2
              go_roundw
              case rel => exact ⟨k + 1, by omega, by go_num, HG.out⟩
              case measure => simp [intOf]; omega
            · refine wp_region_L (B := [15]) (S := (fun w' => w'.cell? ⟨Z, 0, none⟩ = some (.int .i64 (p : Int)) ∧ w'.cell? ⟨E, p * 2, none⟩ = some (.int .i64 (cp : Int)) ∧ w'.cell? ⟨E, u * 2, none⟩ = some (.int .i64 (cu : Int)))) (T := (fun w' => w'.cell? ⟨E + 1, 0, none⟩ = some (.bool true))) (by kernel_rfl) ⟨⟨z0, ep, eu⟩, t0⟩ (fun hHeld => ?_)
              refine wpAnyL_takeS (i := 0) (v := ?_) rfl (by kernel_rfl) (by kernel_rfl) (by kernel_rfl) (by kernel_rfl) (fun _ _ _ h => h) (Or.inl ⟨by rfl, ?_⟩) (by assumption) ?_
              rotate_left 1
              · intro wz ⟨s0, e0, e1⟩
                go_simp
                all_goals with_reducible rfl
              simp only [Act.put, List.setIfInBounds_toArray, List.set_cons_zero, List.set_cons_succ, List.getElem_toArray, List.getElem_cons_zero]
              refine wpAnyL_take [2, 13, 15] (i := 1) (v := ?_) rfl (by kernel_rfl) (by kernel_rfl) (by kernel_rfl) (by kernel_rfl) (fun _ _ _ h => h) (Or.inl ⟨by rfl, ?_⟩) (by assumption) ?_
              rotate_left 1
              · intro wz ⟨⟨s0, e0, e1⟩, t0⟩
                go_simp
                all_goals with_reducible rfl
              simp only [Act.put, List.setIfInBounds_toArray, List.set_cons_zero, List.set_cons_succ, List.getElem_toArray, List.getElem_cons_zero, List.getElem_cons_succ]
              refine wpAnyL_takeS (i := 2) (v := ?_) rfl (by kernel_rfl) (by kernel_rfl) (by kernel_rfl) (by kernel_rfl) (fun _ _ _ h => h) (Or.inl ⟨by rfl, ?_⟩) (by assumption) ?_
              rotate_left 1
              · intro wz ⟨s0, e0, e1⟩
                go_simp
                all_goals with_reducible rfl
              simp only [Act.put, List.setIfInBounds_toArray, List.set_cons_zero, List.set_cons_succ, List.getElem_toArray, List.getElem_cons_zero, List.getElem_cons_succ]
              refine wpAnyL_takeS (i := 3) (v := ?_) rfl (by kernel_rfl) (by kernel_rfl) (by kernel_rfl) (by kernel_rfl) (fun _ _ _ h => h) (Or.inl ⟨by rfl, ?_⟩) (by assumption) ?_
              rotate_left 1
              · intro wz ⟨s0, e0, e1⟩
                go_simp
                all_goals with_reducible rfl
              simp only [Act.put, List.setIfInBounds_toArray, List.set_cons_zero, List.set_cons_succ, List.getElem_toArray, List.getElem_cons_zero, List.getElem_cons_succ]
              refine wpAnyL_takeS (i := 4) (v := ?_) rfl (by kernel_rfl) (by kernel_rfl) (by kernel_rfl) (by kernel_rfl) (fun _ _ _ h => h) (Or.inl ⟨by rfl, ?_⟩) (by assumption) ?_
              rotate_left 1
              · intro wz ⟨s0, e0, e1⟩
                go_simp
                all_goals with_reducible rfl
              simp only [Act.put, List.setIfInBounds_toArray, List.set_cons_zero, List.set_cons_succ, List.getElem_toArray, List.getElem_cons_zero, List.getElem_cons_succ]
              refine wpAnyL_takeS (i := 5) (v := ?_) rfl (by kernel_rfl) (by kernel_rfl) (by kernel_rfl) (by kernel_rfl) (fun _ _ _ h => h) (Or.inl ⟨by rfl, ?_⟩) (by assumption) ?_
              rotate_left 1
              · intro wz ⟨s0, e0, e1⟩
                go_simp
                all_goals with_reducible rfl
              simp only [Act.put, List.setIfInBounds_toArray, List.set_cons_zero, List.set_cons_succ, List.getElem_toArray, List.getElem_cons_zero, List.getElem_cons_succ]
              refine wpAnyL_takeS (i := 6) (v := ?_) rfl (by kernel_rfl) (by kernel_rfl) (by kernel_rfl) (by kernel_rfl) (fun _ _ _ h => h) (Or.inl ⟨by rfl, ?_⟩) (by assumption) ?_
              rotate_left 1
              · intro wz ⟨s0, e0, e1⟩
                go_simp
                all_goals with_reducible rfl
              simp only [Act.put, List.setIfInBounds_toArray, List.set_cons_zero, List.set_cons_succ, List.getElem_toArray, List.getElem_cons_zero, List.getElem_cons_succ]
              refine wpAnyL_takeS (i := 7) (v := ?_) rfl (by kernel_rfl) (by kernel_rfl) (by kernel_rfl) (by kernel_rfl) (fun _ _ _ h => h) (Or.inl ⟨by rfl, ?_⟩) (by assumption) ?_
              rotate_left 1
              · intro wz ⟨s0, e0, e1⟩
                go_simp
                all_goals with_reducible rfl
              simp only [Act.put, List.setIfInBounds_toArray, List.set_cons_zero, List.set_cons_succ, List.getElem_toArray, List.getElem_cons_zero, List.getElem_cons_succ]
              refine wpAnyL_takeS (i := 8) (v := ?_) rfl (by kernel_rfl) (by kernel_rfl) (by kernel_rfl) (by kernel_rfl) (fun _ _ _ h => h) (Or.inl ⟨by rfl, ?_⟩) (by assumption) ?_
              rotate_left 1
              · intro wz ⟨s0, e0, e1⟩
                go_simp
                all_goals with_reducible rfl
              simp only [Act.put, List.setIfInBounds_toArray, List.set_cons_zero, List.set_cons_succ, List.getElem_toArray, List.getElem_cons_zero, List.getElem_cons_succ]
              refine wpAnyL_takeS (i := 9) (v := ?_) rfl (by kernel_rfl) (by kernel_rfl) (by kernel_rfl) (by kernel_rfl) (fun _ _ _ h => h) (Or.inl ⟨by rfl, ?_⟩) (by assumption) ?_
              rotate_left 1
              · intro wz ⟨s0, e0, e1⟩
                go_simp
                all_goals with_reducible rfl
              simp only [Act.put, List.setIfInBounds_toArray, List.set_cons_zero, List.set_cons_succ, List.getElem_toArray, List.getElem_cons_zero, List.getElem_cons_succ]
              refine wpAnyL_takeS (i := 10) (v := ?_) rfl (by kernel_rfl) (by kernel_rfl) (by kernel_rfl) (by kernel_rfl) (fun _ _ _ h => h) (Or.inl ⟨by rfl, ?_⟩) (by assumption) ?_
              rotate_left 1
              · intro wz ⟨s0, e0, e1⟩
                go_simp
                all_goals with_reducible rfl
              simp only [Act.put, List.setIfInBounds_toArray, List.set_cons_zero, List.set_cons_succ, List.getElem_toArray, List.getElem_cons_zero, List.getElem_cons_succ]
              refine wpAnyL_takeS (i := 11) (v := ?_) rfl (by kernel_rfl) (by kernel_rfl) (by kernel_rfl) (by kernel_rfl) (fun _ _ _ h => h) (Or.inl ⟨by rfl, ?_⟩) (by assumption) ?_
              rotate_left 1
              · intro wz ⟨s0, e0, e1⟩
                go_simp
                all_goals with_reducible rfl
              simp only [Act.put, List.setIfInBounds_toArray, List.set_cons_zero, List.set_cons_succ, List.getElem_toArray, List.getElem_cons_zero, List.getElem_cons_succ]
              refine wpAnyL_takeS (i := 12) (v := ?_) rfl (by kernel_rfl) (by kernel_rfl) (by kernel_rfl) (by kernel_rfl) (fun _ _ _ h => h) (Or.inl ⟨by rfl, ?_⟩) (by assumption) ?_
              rotate_left 1
              · intro wz ⟨s0, e0, e1⟩
                go_simp
                all_goals with_reducible rfl
              simp only [Act.put, List.setIfInBounds_toArray, List.set_cons_zero, List.set_cons_succ, List.getElem_toArray, List.getElem_cons_zero, List.getElem_cons_succ]
              refine wpAnyL_takeS (i := 13) (v := ?_) rfl (by kernel_rfl) (by kernel_rfl) (by kernel_rfl) (by kernel_rfl) (fun _ _ _ h => h) (Or.inl ⟨by rfl, ?_⟩) (by assumption) ?_
              rotate_left 1
              · intro wz ⟨s0, e0, e1⟩
                go_simp
                all_goals with_reducible rfl
              simp only [Act.put, List.setIfInBounds_toArray, List.set_cons_zero, List.set_cons_succ, List.getElem_toArray, List.getElem_cons_zero, List.getElem_cons_succ]
              refine wpAnyL_takeS (i := 14) (v := ?_) rfl (by kernel_rfl) (by kernel_rfl) (by kernel_rfl) (by kernel_rfl) (fun _ _ _ h => h) (Or.inl ⟨by rfl, ?_⟩) (by assumption) ?_
              rotate_left 1
              · intro wz ⟨s0, e0, e1⟩
                go_simp
                all_goals with_reducible rfl
              simp only [Act.put, List.setIfInBounds_toArray, List.set_cons_zero, List.set_cons_succ, List.getElem_toArray, List.getElem_cons_zero, List.getElem_cons_succ]
              refine wpAnyL_ready (rs := [15]) (by kernel_rfl) (by simp) (AllReadyL.last rfl (by kernel_rfl) (fun K hK => ?_) AllReadyL.nil)
              go_simp
              refine hK.out _ _ ?_ (fun hHeld => ?_)
              · exact ⟨(World.cell?_setCell_other _ _ _ _ (blkNe (Ne.symm nZK))).trans hHeld.1.1, (World.cell?_setCell_other _ _ _ _ (blkNe (Ne.symm nKE))).trans hHeld.1.2.1, (World.cell?_setCell_other _ _ _ _ (blkNe (Ne.symm nKE))).trans hHeld.1.2.2⟩
              clear hK K
              refine wpAnyL_done (by kernel_rfl) ?_ _
              go_wp2
              go_roundw
              case rel => exact ⟨k + 1, by omega, by go_num, (by
                have h := HG.out
                rw [Bool.true_and, show decide ((cu : Int) ≤ (cp : Int)) = decide (cu ≤ cp) by simp] at h
                exact h)⟩
              case measure => simp [intOf]; omega
          · have hk1' : (xk == 1) = false := by simp [hk1]
            have R : Hid (CfAt w l E f (k + 1) (w3.setCell ⟨E + 1, 2, none⟩ (.bool false))) := by
              refine ⟨HQ2.out, ?_, HE2.out, HB2.out⟩
              rw [HS.out, HCl.out, HRe.out, HbS2.out, HbC2.out, HbR2.out, hk1']
              simpa using HP2.out
            clear HS HCl HRe HbS2 HbC2 HbR2 HP2 HQ2 HE2 HB2 HA3 ep eu
            generalize noneB (badR l) k = rr at t0
            generalize noneB (badC l) k = rc at t1
            generalize noneB (badS l) k = rs at t2
            go_wp2
            go_roundw
            case rel => exact ⟨k + 1, by omega, by go_num, R.out⟩
            case measure => simp [intOf]; omega
      · obtain rfl : k = l.length := by omega
        have t0 := HAt.out.tri.c0
        have t1 := HAt.out.tri.c1
        have t2 := HAt.out.tri.c2
        have r0 := HAt.out.res.c0
        have r1 := HAt.out.res.c1
        have r2 := HAt.out.res.c2
        have rz := HAt.out.res.fz
        have HFin : Hid (TriB (((wr.setCell ⟨w.heap.size, 0, none⟩ (.bool (noneB (badR l) l.length))).setCell ⟨w.heap.size, 1, none⟩ (.bool (noneB (badC l) l.length))).setCell ⟨w.heap.size, 2, none⟩ (.bool (noneB (badS l) l.length))) w.heap.size (noneB (badR l) l.length) (noneB (badC l) l.length) (noneB (badS l) l.length)) := ((HAt.out.res.put0 _).put1 _).put2 _
        have HBf : Hid (Below w.heap.size w (((wr.setCell ⟨w.heap.size, 0, none⟩ (.bool (noneB (badR l) l.length))).setCell ⟨w.heap.size, 1, none⟩ (.bool (noneB (badC l) l.length))).setCell ⟨w.heap.size, 2, none⟩ (.bool (noneB (badS l) l.length)))) := ((HAt.out.bel.setCell (p := ⟨w.heap.size, 0, none⟩) (Nat.le_refl _) _).setCell (p := ⟨w.heap.size, 1, none⟩) (Nat.le_refl _) _).setCell (p := ⟨w.heap.size, 2, none⟩) (Nat.le_refl _) _
        have hEnd : ∃ r c s, r = noneB (badR l) l.length ∧ c = noneB (badC l) l.length ∧ s = noneB (badS l) l.length := ⟨_, _, _, rfl, rfl, rfl⟩
        obtain ⟨r, c, s, er, ec, es⟩ := hEnd
        rw [← er, ← ec, ← es] at HFin HBf
        rw [← er] at t0
        rw [← ec] at t1
        rw [← es] at t2
        have HEq := hideIt (And.intro er (And.intro ec es))
        clear er ec es HAt
        go_wp2
        refine bodyPost_ret (results_two rfl _ _ _ _ rfl (load48 HFin.out)) rfl ?_
        exact ⟨r, c, s, _, 0, -1, rfl, .inl ⟨rfl, rfl, rfl⟩, HK.out, fun h => absurd rfl h, fun _ => HEq.out, HBf.out⟩
  · have hne : ∃ t x, v1 = .iface t x := by
      rcases HE.out with ⟨h, _⟩ | ⟨_, _, h⟩ | ⟨_, _, g, h, _⟩
      · exact absurd h hn0
      · exact ⟨_, _, h⟩
      · exact ⟨_, _, h⟩
    obtain ⟨t, x, rfl⟩ := hne
    have r0 := HT1.out.c0
    have r1 := HT1.out.c1
    have r2 := HT1.out.c2
    have rz := HT1.out.fz
    have HFin : Hid (TriB (((w1.setCell ⟨w.heap.size, 0, none⟩ (.bool false)).setCell ⟨w.heap.size, 1, none⟩ (.bool false)).setCell ⟨w.heap.size, 2, none⟩ (.bool false)) w.heap.size false false false) := ((HT1.out.put0 _).put1 _).put2 _
    have HBf : Hid (Below w.heap.size w (((w1.setCell ⟨w.heap.size, 0, none⟩ (.bool false)).setCell ⟨w.heap.size, 1, none⟩ (.bool false)).setCell ⟨w.heap.size, 2, none⟩ (.bool false))) := ((HB1.out.setCell (p := ⟨w.heap.size, 0, none⟩) (Nat.le_refl _) _).setCell (p := ⟨w.heap.size, 1, none⟩) (Nat.le_refl _) _).setCell (p := ⟨w.heap.size, 2, none⟩) (Nat.le_refl _) _
    have HEf : Hid (ErrAt (((w1.setCell ⟨w.heap.size, 0, none⟩ (.bool false)).setCell ⟨w.heap.size, 1, none⟩ (.bool false)).setCell ⟨w.heap.size, 2, none⟩ (.bool false)) (.iface t x) n pl) := by
      obtain ⟨a1, b1⟩ := ErrAt.turn (o := 0) (y := false) HE.out ⟨_, r0⟩ rfl
      obtain ⟨a2, b2⟩ := ErrAt.turn (o := 1) (y := false) a1 b1 rfl
      exact (ErrAt.turn (o := 2) (y := false) a2 b2 rfl).1
    go_wp2
    refine bodyPost_ret (results_two rfl _ _ _ _ rfl (load48 HFin.out)) rfl ?_
    exact ⟨false, false, false, _, n, pl, rfl, HEf.out, HK.out, fun _ => ⟨rfl, rfl, rfl⟩, fun h => absurd h hn0, HBf.out⟩
end Go.Proofs.Ythmiocbihhbdpaa
