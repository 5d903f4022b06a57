/-
  The document's store, walked: index.
  The document's store, walked: hear.
-/
import Derived.Test.YtncnojgemmcplaaGreatDoorDwFZ
import Derived.Test.YtncnojgemmcplaaGreatDoorSwEZ
import Derived.BigQuiet
namespace Go.Proofs.YtncnojgemmcplaaGreatDoor.St.Dc
open Go.RowKit

theorem first_idx (x : Int) : ∀ (L : List Int), x ∈ L → ∃ j, ∃ h : j < L.length, L[j] = x ∧ ∀ q, (hq : q < L.length) → q < j → L[q] ≠ x
  | [], h => by cases h
  | a :: L, h => by
    by_cases e : a = x
    · exact ⟨0, by simp, e, fun q _ hq => absurd hq (by omega)⟩
    · obtain ⟨j, hj, h1, h2⟩ := first_idx x L (by rcases List.mem_cons.1 h with h | h; exact absurd h.symm e; exact h)
      refine ⟨j + 1, by simp; omega, by simpa using h1, fun q hq hlt => ?_⟩
      cases q with
      | zero => simpa using e
      | succ q => simpa using h2 q (by simpa using hq) (by omega)
set_option maxRecDepth 100000 in
set_option maxHeartbeats 1000000 in
theorem index_core (x : Int) (L : List Int) (hL : L.length ≤ 1000) (r : Int) (hr : (∃ j, ∃ h : j < L.length, L[j] = x ∧ (∀ q, (hq : q < L.length) → q < j → L[q] ≠ x) ∧ r = j) ∨ ((∀ q, (hq : q < L.length) → L[q] ≠ x) ∧ r = -1)) (a : Option Addr) (cap : Nat) (w : World) (hq : IntsQ w a L) :
    Calls Tryz.prog 105 #[.slice a L.length cap, .int .i64 x] w fun e w' => e = .returned (.int .i64 r) ∧ w' = w := by
  have HQ := hideIt hq
  have HR := hideIt hr
  clear hq hr
  go_enter Tryz.func105, Tryz.ntmps105
  go_wp2
  go_loopw [9] (fun v wr => ∃ j : Nat, j ≤ L.length ∧ v = .int .i64 j ∧ wr = w ∧ ∀ q, (hq : q < L.length) → q < j → L[q] ≠ x) (fun v _ => L.length - (intOf v).toNat)
  case atStart => exact ⟨0, Nat.zero_le _, rfl, rfl, fun q _ h => absurd h (by omega)⟩
  case round =>
    obtain ⟨j, hj, rfl, rfl, hno⟩ := hrel
    have HNo := hideIt hno
    clear hno
    by_cases hjl : j < L.length
    · have hjl' : (j : Int) < (L.length : Int) := by omega
      obtain ⟨g, off, rfl, hc⟩ : ∃ g off, a = some ⟨g, off, none⟩ ∧ wr.cell? ⟨g, off + j, none⟩ = some (.int .i64 L[j]) := by
        rcases HQ.out with rfl | ⟨g, off, e, _, h⟩
        · simp at hjl
        · exact ⟨g, off, e, h j hjl⟩
      by_cases hx : L[j] = x
      · have g1 : (L[j] == x) = true := by simp [hx]
        have HE : Hid (r = (j : Int)) := by
          show r = (j : Int)
          rcases HR.out with ⟨k, hk, h1, h2, h3⟩ | ⟨h1, _⟩
          · rw [h3]
            rcases Nat.lt_trichotomy j k with h | h | h
            · exact absurd hx (h2 j hjl h)
            · rw [h]
            · exact absurd h1 (HNo.out k hk h)
          · exact absurd hx (h1 j hjl)
        generalize L[j] = y at *
        clear hx HNo HR HQ
        go_wp2
        go_ret
        exact ⟨by rw [HE.out]; rfl, rfl⟩
      · have g1 : (L[j] == x) = false := by simp [hx]
        have HN2 : Hid (∀ q, (hq : q < L.length) → q < j + 1 → L[q] ≠ x) := fun q hq h => by
          by_cases e : q = j
          · subst e; exact hx
          · exact HNo.out q hq (by omega)
        generalize hy : L[j] = y at *
        clear hx HNo hy
        go_wp2
        go_roundw
        case rel => exact ⟨j + 1, by omega, by go_num, trivial, HN2.out⟩
        case measure => simp [intOf]; omega
    · have hnl : ¬ (j : Int) < (L.length : Int) := by omega
      have HE : Hid (r = -1) := by
        rcases HR.out with ⟨k, hk, h1, _⟩ | ⟨_, h1⟩
        · exact absurd h1 (HNo.out k hk (by omega))
        · exact h1
      clear HNo HR HQ
      go_wp2
      go_ret
      exact ⟨by rw [HE.out]; rfl, rfl⟩
/-- What index tells: some number from 0 on just if it is there. -/
theorem index_any (x : Int) (L : List Int) (hL : L.length ≤ 1000) : ∃ r : Int, (decide (r ≥ 0) = decide (x ∈ L)) ∧ ∀ (a : Option Addr) (cap : Nat) (w : World), IntsQ w a L → Calls Tryz.prog 105 #[.slice a L.length cap, .int .i64 x] w fun e w' => e = .returned (.int .i64 r) ∧ w' = w := by
  by_cases h : x ∈ L
  · obtain ⟨j, hj, h1, h2⟩ := first_idx x L h
    exact ⟨(j : Int), by rw [decide_eq_true h]; exact decide_eq_true (by omega), fun a cap w hq => index_core x L hL _ (.inl ⟨j, hj, h1, h2, rfl⟩) a cap w hq⟩
  · exact ⟨-1, by rw [decide_eq_false h]; rfl, fun a cap w hq => index_core x L hL _ (.inr ⟨fun q hq e => h (by rw [← e]; exact List.getElem_mem hq), rfl⟩) a cap w hq⟩
end Go.Proofs.YtncnojgemmcplaaGreatDoor.St.Dc

namespace Go.Proofs.YtncnojgemmcplaaGreatDoor.St.Dc
open Go.RowKit

/-- A store of which one client was turned, on the way. -/
structure HSt (w0 : World) (K : DoK) (S : Sto) (W : World) (i : Nat) (V : World) (y : Cl) (a : Option Addr) (n c : Nat) : Prop where
  r : ∃ K', (DoR w0 V K' { S with cl := updC S.cl i y } ∧ (K'.L = K.L ∧ K'.lt = K.lt ∧ K'.f = K.f ∧ K'.cut = K.cut ∧ K'.LM = K.LM)) ∧ DFr K S.k W V K' ∧ K'.cv i = .slice a n c
section
variable {w0 W V V' : World} {K : DoK} {S : Sto} {i : Nat} {y : Cl} {a : Option Addr} {n c : Nat}
theorem HSt.below (h : HSt w0 K S W i V y a n c) (hb : Below V.heap.size V V') : HSt w0 K S W i V' y a n c := by
  obtain ⟨K', ⟨h1, h2⟩, h3, h4⟩ := h.r
  exact ⟨K', ⟨h1.below hb, h2⟩, h3.trans (DFr.below hb), h4⟩
theorem HSt.at (h : HSt w0 K S W i V y a n c) (hi : i < S.k) : DcAt V K.C (i * 11) y (.slice a n c) ∧ (∀ j, V.frozen? ⟨K.C, j, none⟩ = false) ∧ (∃ cur, V.heap[K.C]? = some (.cells cur 107 (0, 0))) ∧ (V.cell? ⟨K.B, 0, none⟩ = some (.int .i64 (S.n : Int)) ∧ V.cell? ⟨K.B, 2, none⟩ = some (.int .i64 (S.ask : Int)) ∧ V.cell? ⟨K.B, 3, none⟩ = some (.int .i64 (S.tell : Int)) ∧ V.cell? ⟨K.B, 4, none⟩ = some (.bool S.back)) ∧ K.B ≠ K.C := by
  obtain ⟨K', ⟨h1, _⟩, h3, h4⟩ := h.r
  have hx := (h1.facts .C trivial).2.1 i hi
  have hx' : DcAt V K'.C (i * 11) (updC S.cl (i : Int) y (i : Int)) (K'.cv i) := hx
  rw [updC_same, h4, h3.fix.2.1] at hx'
  have hc := h1.cells.1
  rw [h3.fix.1] at hc
  refine ⟨hx', fun j => by rw [← h3.fix.2.1]; exact h1.fzC j, by rw [← h3.fix.2.1]; exact (h1.facts .C trivial).1, ⟨hc.1, hc.2.2.1, hc.2.2.2.1, hc.2.2.2.2⟩, fun e => ?_⟩
  exact h1.apart (p := .B) (q := .C) trivial trivial (fun e => by cases e) (b := K'.B) rfl (by show some K'.C = _; rw [h3.fix.1, h3.fix.2.1, e])
theorem HSt.set (h : HSt w0 K S W i V y a n c) (hi : i < S.k) (hO : OnlyC V V' K.C (i * 11) 11 107) {x : Cl} (hC : DcAt V' K.C (i * 11) x (.slice a n c)) (hx : x.cnt = y.cnt) : HSt w0 K S W i V' x a n c := by
  obtain ⟨K', ⟨h1, h2⟩, h3, h4⟩ := h.r
  have e : ({ S with cl := updC S.cl i y } : Sto).cl (i : Int) = y := updC_same _ _ _
  obtain ⟨p1, p2⟩ := h1.setC (i := i) hi (by rw [h3.fix.2.1]; exact hO) (by rw [h3.fix.2.1]; exact hC) (.inl ⟨h4.symm, by rw [e]; exact hx⟩)
  rw [← h4, updP_self] at p1 p2
  have p1' : DoR w0 V' K' { S with cl := updC (updC S.cl i y) i x } := p1
  rw [updC_updC] at p1'
  exact ⟨K', ⟨p1', h2⟩, h3.trans p2, h4⟩
theorem HSt.told (h : HSt w0 K S W i V y a n c) (hp : DoPl K S) (q : Nat) : DoTold q w0 K S W { S with cl := updC S.cl i y } V := by
  obtain ⟨K', ⟨h1, h2⟩, h3, _⟩ := h.r
  exact ⟨K', h1, hp.raw h2 ⟨rfl, rfl, rfl⟩, by rw [h2.2.1]; exact Nat.le_add_right _ _, h3⟩
theorem HSt.round (h : HSt w0 K S W i V y a n c) (hp : DoPl K S) (hi : i < S.k) (hn7 : S.n ≤ 7) (hk8 : S.k ≤ 8) (hrd : 0 ≤ y.rd ∧ y.rd ≤ 100000) (h5 : S.mails.length ≤ 500) (hlt : K.lt.length ≤ 40000) :
    Calls Tryz.prog 67 #[.pointer (some ⟨K.B, 0, none⟩), .int .i64 (i : Int)] V fun en W' => en = .returned (.tuple #[]) ∧ DoTold 7 w0 K S W (roundS S i y) W' := by
  obtain ⟨K', ⟨h1, h2⟩, h3, _⟩ := h.r
  have e : ({ S with cl := updC S.cl i y } : Sto).cl (i : Int) = y := updC_same _ _ _
  have := roundD_any h1 (hp.raw h2 ⟨rfl, rfl, rfl⟩) hn7 hk8 (i := i) hi (by rw [e]; exact hrd) h5 (by rw [h2.2.1]; exact hlt)
  rw [h3.fix.1] at this
  refine this.mono fun en W' ⟨e1, K4, q1, q2, q3, q4⟩ => ⟨e1, K4, ?_, ?_, by rw [h2.2.1] at q3; exact q3, h3.trans q4⟩
  · rw [e] at q1
    unfold roundS at q1 ⊢
    have q1' : DoR w0 W' K4 { S with cl := updC (updC S.cl i y) i (roundC y), mails := sendAll S.mails S.n i (roundC y) } := q1
    rw [updC_updC] at q1'
    exact q1'
  · rw [e] at q2
    unfold roundS at q2 ⊢
    have q2' : DoPl K4 { S with cl := updC (updC S.cl i y) i (roundC y), mails := sendAll S.mails S.n i (roundC y) } := q2
    rw [updC_updC] at q2'
    exact q2'
/-- The end: what is seen, and a client that is at nothing. -/
theorem HSt.done (h : HSt w0 K S W i V y a n c) (hp : DoPl K S) (hi : i < S.k) (hs : S.seen.length ≤ 900) (r : Int) :
    Calls Tryz.prog 66 #[.pointer (some ⟨K.B, 0, none⟩), .int .i64 (i : Int), .int .i64 2, .int .i64 r, .agg #[.int .i64 y.kept.s.t, .int .i64 y.kept.s.c]] V fun en W' => en = .returned (.tuple #[]) ∧ W'.cell? ⟨K.C, i * 11, none⟩ = some (.bool y.busy) ∧ W'.frozen? ⟨K.C, i * 11, none⟩ = false ∧ DoTold 7 w0 K S W { S with seen := S.seen ++ [snOf i y 2 r y.kept.s], cl := updC S.cl i { y with busy := false } } (W'.setCell ⟨K.C, i * 11, none⟩ (.bool false)) := by
  obtain ⟨K', ⟨h1, h2⟩, h3, h4⟩ := h.r
  have e : ({ S with cl := updC S.cl i y } : Sto).cl (i : Int) = y := updC_same _ _ _
  have := seeD_any h1 (by show S.seen.length ≤ 1000; omega) (i := i) hi 2 r y.kept.s
  rw [h3.fix.1] at this
  refine this.mono fun en W' ⟨e1, K4, ⟨q1, q2⟩, q3⟩ => ?_
  have fC : K4.C = K.C := q3.fix.2.1.trans h3.fix.2.1
  have q1' : DoR w0 W' K4 { S with cl := updC S.cl i y, seen := S.seen ++ [snOf i (updC S.cl (i : Int) y (i : Int)) 2 r y.kept.s] } := q1
  rw [updC_same] at q1'
  have hx : DcAt W' K4.C (i * 11) (updC S.cl (i : Int) y (i : Int)) (K4.cv i) := (q1'.facts .C trivial).2.1 i hi
  rw [updC_same, fC] at hx
  have hcb : ∃ cur, W'.heap[K.C]? = some (.cells cur 107 (0, 0)) := by rw [← fC]; exact (q1'.facts .C trivial).1
  have hO : OnlyC W' ((W').setCell ⟨K.C, i * 11, none⟩ (.bool false)) K.C (i * 11) 11 107 := ((OnlyC.refl hcb)).set (by omega) _
  have hC : DcAt ((W').setCell ⟨K.C, i * 11, none⟩ (.bool false)) K.C (i * 11) { y with busy := false } (K4.cv i) := by
    refine ⟨?_, ?_, ?_, ?_, ?_, ?_, ?_, ⟨?_, ?_, ?_⟩, ?_⟩
    · exact World.cell?_setCell_same' _ _ _ (by rw [hx.busy]; rfl)
    · rw [World.cell?_setCell_other _ _ _ _ (offNe (by omega))]
      exact hx.gone
    · rw [World.cell?_setCell_other _ _ _ _ (offNe (by omega))]
      exact hx.write
    · rw [World.cell?_setCell_other _ _ _ _ (offNe (by omega))]
      exact hx.tells
    · rw [World.cell?_setCell_other _ _ _ _ (offNe (by omega))]
      exact hx.key
    · rw [World.cell?_setCell_other _ _ _ _ (offNe (by omega))]
      exact hx.value
    · rw [World.cell?_setCell_other _ _ _ _ (offNe (by omega))]
      exact hx.rd
    · rw [World.cell?_setCell_other _ _ _ _ (offNe (by omega))]
      exact hx.kept.1
    · rw [World.cell?_setCell_other _ _ _ _ (offNe (by omega))]
      exact hx.kept.2.1
    · rw [World.cell?_setCell_other _ _ _ _ (offNe (by omega))]
      exact hx.kept.2.2
    · rw [World.cell?_setCell_other _ _ _ _ (offNe (by omega))]
      exact hx.cv
  obtain ⟨p1, p2⟩ := q1'.setC (i := i) hi (by rw [fC]; exact hO) (by rw [fC]; exact hC) (.inl ⟨rfl, by show y.cnt = (updC S.cl (i : Int) y (i : Int)).cnt; rw [updC_same]⟩)
  rw [updP_self] at p1 p2
  have p1' : DoR w0 (W'.setCell ⟨K.C, i * 11, none⟩ (.bool false)) K4 { S with cl := updC (updC S.cl i y) i { y with busy := false }, seen := S.seen ++ [snOf i y 2 r y.kept.s] } := p1
  rw [updC_updC] at p1'
  exact ⟨e1, hx.busy, by rw [← fC]; exact q1'.fzC _, K4, p1', hp.raw ⟨q2.1.trans h2.1, q2.2.1.trans h2.2.1, q2.2.2.1.trans h2.2.2.1, q2.2.2.2.1.trans h2.2.2.2.1, q2.2.2.2.2.trans h2.2.2.2.2⟩ ⟨rfl, rfl, rfl⟩, by rw [q2.2.1, h2.2.1]; exact Nat.le_add_right _ _, h3.trans (q3.trans p2)⟩
end
end Go.Proofs.YtncnojgemmcplaaGreatDoor.St.Dc
