/-
  What begin of a history does.
-/
import Derived.Test.YtbmnehnmmlfhdaaDoorMem
import Derived.Test.YtbmnehnmmlfhdaaDoorWalkF
import Derived.Deep.QuietTactic
import Derived.BigQuiet
import Derived.RegionTactic
import Derived.Deep.RegionHeld3
import Derived.Deep.DeepCutAuto
namespace Go.Proofs.YtbmnehnmmlfhdaaDoor
open Go.RowKit

def Opn.list (x : Opn) : List Value := [.int .i64 x.p, .int .i64 x.k, .int .i64 x.d, .int .i64 x.a, .int .i64 x.b, .int .i64 x.r, .int .i64 x.c, .int .i64 x.e]
def opCells (l : List Opn) : List Value := l.flatMap Opn.list
def Ev.agg (e : Ev) : Value := .agg #[.int .i64 e.p, .int .i64 e.t, .int .i64 e.k, .int .i64 e.d, .int .i64 e.a, .int .i64 e.b, .int .i64 e.r]
def Ev.obj (e : Ev) : Obj := .cells #[.int .i64 e.p, .int .i64 e.t, .int .i64 e.k, .int .i64 e.d, .int .i64 e.a, .int .i64 e.b, .int .i64 e.r] 31
def zeroObj : Obj := .cells #[.int .i64 0, .int .i64 0, .int .i64 0, .int .i64 0, .int .i64 0, .int .i64 0, .int .i64 0, .int .i64 0] 51

/-- A history in memory: its struct in block B, its map in block M, its row from base on. -/
structure HistAt (w : World) (B M base cnt : Nat) (s : Hs) : Prop where
  mapc : w.cell? ⟨B, 0, none⟩ = some (.map (some M))
  lost : ∀ p : Int, 0 ≤ p → p < 8 → w.cell? ⟨B, 1 + p.toNat, none⟩ = some (.bool (s.lost p)) ∧ w.frozen? ⟨B, 1 + p.toNat, none⟩ = false
  row : ∃ v, w.cell? ⟨B, 9, none⟩ = some v ∧ w.frozen? ⟨B, 9, none⟩ = false ∧ w.ownsRow base 51 8 v s.done.length (opCells s.done)
  map : MapIs w M cnt s.busy
  lt1 : M < B
  lt2 : B < base
  lt3 : base ≤ w.heap.size

theorem HistAt.drew {w : World} {B M base cnt : Nat} {s : Hs} (h : HistAt w B M base cnt s) : HistAt w.drew B M base cnt s := ⟨h.mapc, h.lost, h.row, h.map, h.lt1, h.lt2, h.lt3⟩
theorem HistAt.drewN {w : World} {B M base cnt : Nat} {s : Hs} (h : HistAt w B M base cnt s) (n : Nat) : HistAt (w.drewN n) B M base cnt s := ⟨h.mapc, h.lost, h.row, h.map, h.lt1, h.lt2, h.lt3⟩
theorem HistAt.alloc {w : World} {B M base cnt : Nat} {s : Hs} (h : HistAt w B M base cnt s) (o : Obj) : HistAt (w.alloc o) B M base cnt s := by
  have hB : B < w.heap.size := Nat.lt_of_lt_of_le h.lt2 h.lt3
  obtain ⟨v, h1, h2, h3⟩ := h.row
  refine ⟨?_, fun p p0 p8 => ?_, ⟨v, ?_, ?_, h3.alloc o⟩, h.map.alloc o, h.lt1, h.lt2, by simp; have := h.lt3; omega⟩
  · rw [World.cell?_alloc_lt _ _ _ hB]; exact h.mapc
  · rw [World.cell?_alloc_lt _ _ _ hB, World.frozen?_alloc_old _ _ _ (Nat.ne_of_lt hB)]; exact h.lost p p0 p8
  · rw [World.cell?_alloc_lt _ _ _ hB]; exact h1
  · rw [World.frozen?_alloc_old _ _ _ (Nat.ne_of_lt hB)]; exact h2

set_option maxHeartbeats 1000000 in
theorem begin_busy (e : Ev) (n : Int) (w : World) (B M base cnt : Nat) (s : Hs) (o : Opn) (H : HistAt w B M base cnt s) (h0 : 0 ≤ e.p) (h8 : e.p < 8) (hb : s.busy e.p = some o) :
    Calls Tryd.prog 35 #[.pointer (some ⟨B, 0, none⟩), .int .i64 n, e.agg] w fun ev w' => ev = .returned (.int .i64 6) ∧ HistAt w' B M base cnt s ∧ Below M w w' := by
  have hB : B < w.heap.size := Nat.lt_of_lt_of_le H.lt2 H.lt3
  have hM : M < w.heap.size := Nat.lt_trans H.lt1 hB
  have hc := H.mapc
  obtain ⟨x, hr1, hx1⟩ := (H.map.alloc e.obj).drew.look e.p h0 h8
  obtain rfl := hx1 o hb
  obtain ⟨y, hr2, hx2⟩ := ((H.map.alloc e.obj).alloc zeroObj).drew.look e.p h0 h8
  obtain rfl := hx2 x hb
  rw [hb] at hr1 hr2
  simp only [Option.isSome_some] at hr1 hr2
  clear hx1 hx2 hb
  unfold Opn.agg Ev.obj at hr1
  unfold Opn.agg Ev.obj zeroObj at hr2
  have HH := H
  clear H
  unfold Ev.agg
  go_enter Tryd.func35, Tryd.ntmps35
  go_wp2_with fail
  go_region
  all_goals
    go_wp2_with fail
    go_quiet (fail)
    go_wp2
    go_ret
    refine ⟨rfl, ?_, ?_⟩
    · repeat (first | exact HH | refine HistAt.drewN ?_ _ | refine HistAt.drew ?_ | refine HistAt.alloc ?_ _)
    · refine Below.mono (B := w.heap.size) ?_ (Nat.le_of_lt hM)
      repeat (first | exact Below.refl _ _ | refine below_drewN ?_ _ | refine Below.drew ?_ | refine belA ?_ _)

set_option maxHeartbeats 1000000 in
theorem begin_lost (e : Ev) (n : Int) (w : World) (B M base cnt : Nat) (s : Hs) (H : HistAt w B M base cnt s) (h0 : 0 ≤ e.p) (h8 : e.p < 8) (hb : s.busy e.p = none) (hl : s.lost e.p = true) :
    Calls Tryd.prog 35 #[.pointer (some ⟨B, 0, none⟩), .int .i64 n, e.agg] w fun ev w' => ev = .returned (.int .i64 6) ∧ HistAt w' B M base cnt s ∧ Below M w w' := by
  have hB : B < w.heap.size := Nat.lt_of_lt_of_le H.lt2 H.lt3
  have hM : M < w.heap.size := Nat.lt_trans H.lt1 hB
  have hc := H.mapc
  have hlc := (H.lost e.p h0 h8).1
  rw [hl] at hlc
  obtain ⟨x, hr1, hx1⟩ := (H.map.alloc e.obj).drew.look e.p h0 h8
  obtain ⟨y, hr2, hx2⟩ := ((H.map.alloc e.obj).alloc zeroObj).drew.look e.p h0 h8
  rw [hb] at hr1 hr2
  simp only [Option.isSome_none] at hr1 hr2
  clear hx1 hx2 hb hl
  unfold Opn.agg Ev.obj at hr1
  unfold Opn.agg Ev.obj zeroObj at hr2
  have HH := H
  clear H
  unfold Ev.agg
  go_enter Tryd.func35, Tryd.ntmps35
  go_wp2_with fail
  go_region
  all_goals
    go_wp2_with fail
    go_quiet (fail)
    go_wp2
    go_ret
    refine ⟨rfl, ?_, ?_⟩
    · repeat (first | exact HH | refine HistAt.drewN ?_ _ | refine HistAt.drew ?_ | refine HistAt.alloc ?_ _)
    · refine Below.mono (B := w.heap.size) ?_ (Nat.le_of_lt hM)
      repeat (first | exact Below.refl _ _ | refine below_drewN ?_ _ | refine Below.drew ?_ | refine belA ?_ _)

/-- The cells of an event in a block. -/
def EvIn (w : World) (b : Nat) (e : Ev) : Prop :=
  w.cell? ⟨b, 0, none⟩ = some (.int .i64 e.p) ∧ w.cell? ⟨b, 1, none⟩ = some (.int .i64 e.t) ∧ w.cell? ⟨b, 2, none⟩ = some (.int .i64 e.k) ∧ w.cell? ⟨b, 3, none⟩ = some (.int .i64 e.d) ∧ w.cell? ⟨b, 4, none⟩ = some (.int .i64 e.a) ∧ w.cell? ⟨b, 5, none⟩ = some (.int .i64 e.b) ∧ w.cell? ⟨b, 6, none⟩ = some (.int .i64 e.r)

theorem evIn_new (w : World) (e : Ev) (o : Obj) : EvIn ((w.alloc (.cells #[.int .i64 e.p, .int .i64 e.t, .int .i64 e.k, .int .i64 e.d, .int .i64 e.a, .int .i64 e.b, .int .i64 e.r] 31)).alloc o) w.heap.size e := by
  have h : ∀ j, ((w.alloc (.cells #[.int .i64 e.p, .int .i64 e.t, .int .i64 e.k, .int .i64 e.d, .int .i64 e.a, .int .i64 e.b, .int .i64 e.r] 31)).alloc o).cell? ⟨w.heap.size, j, none⟩ = (w.alloc (.cells #[.int .i64 e.p, .int .i64 e.t, .int .i64 e.k, .int .i64 e.d, .int .i64 e.a, .int .i64 e.b, .int .i64 e.r] 31)).cell? ⟨w.heap.size, j, none⟩ := fun j => World.cell?_alloc_lt _ _ _ (by simp)
  refine ⟨?_, ?_, ?_, ?_, ?_, ?_, ?_⟩ <;> rw [h] <;> simp

/-- A history whose map alone has turned. -/
theorem HistAt.turned {w w' : World} {B M base cnt cnt' : Nat} {s : Hs} {busy : Int → Option Opn} (h : HistAt w B M base cnt s) (ht : w.mapTurned w' M) (hm : MapIs w' M cnt' busy) : HistAt w' B M base cnt' ⟨busy, s.lost, s.done⟩ := by
  have hg := ht.grown
  have hB : B < w.heap.size := Nat.lt_of_lt_of_le h.lt2 h.lt3
  have hne : some B ≠ some M := fun k => by have := h.lt1; have := Option.some.inj k; omega
  have hblk := hg.block B hB hne
  have hc : ∀ j, w'.cell? ⟨B, j, none⟩ = w.cell? ⟨B, j, none⟩ := fun j => World.cell?_of_block (a := ⟨B, j, none⟩) hblk
  have hf : ∀ j, w'.frozen? ⟨B, j, none⟩ = w.frozen? ⟨B, j, none⟩ := fun j => World.frozen?_of_block (a := ⟨B, j, none⟩) hblk
  obtain ⟨v, h1, h2, h3⟩ := h.row
  refine ⟨by rw [hc]; exact h.mapc, fun p p0 p8 => by rw [hc, hf]; exact h.lost p p0 p8, ⟨v, by rw [hc]; exact h1, by rw [hf]; exact h2, h3.kept hg ?_⟩, hm, h.lt1, h.lt2, Nat.le_trans h.lt3 hg.size⟩
  by_cases e : v.ownBlock = none
  · exact .inl e
  · right
    intro k
    have := (h3.lt M k).1
    have := h.lt1
    have := h.lt2
    omega

theorem below_turned {w w' : World} {M : Nat} (ht : w.mapTurned w' M) (hM : M ≤ w.heap.size) : Below M w w' := (Below.refl M w).grown ht.grown hM (fun k hk => by have := Option.some.inj hk; omega)

set_option maxHeartbeats 1000000 in
theorem begin_new (e : Ev) (n : Int) (w : World) (B M base cnt : Nat) (s : Hs) (H : HistAt w B M base cnt s) (hcn : cnt < 1000) (h0 : 0 ≤ e.p) (h8 : e.p < 8) (hb : s.busy e.p = none) (hl : s.lost e.p = false) :
    Calls Tryd.prog 35 #[.pointer (some ⟨B, 0, none⟩), .int .i64 n, e.agg] w fun ev w' => ev = .returned (.int .i64 0) ∧ HistAt w' B M base (cnt + 1) ⟨setO s.busy e.p (some (e.op n)), s.lost, s.done⟩ ∧ Below M w w' := by
  have hB : B < w.heap.size := Nat.lt_of_lt_of_le H.lt2 H.lt3
  have hM : M < w.heap.size := Nat.lt_trans H.lt1 hB
  have hc := H.mapc
  have hlc := (H.lost e.p h0 h8).1
  rw [hl] at hlc
  obtain ⟨x, hr1, hx1⟩ := (H.map.alloc e.obj).drew.look e.p h0 h8
  obtain ⟨y, hr2, hx2⟩ := ((H.map.alloc e.obj).alloc zeroObj).drew.look e.p h0 h8
  rw [hb] at hr1 hr2
  simp only [Option.isSome_none] at hr1 hr2
  clear hx1 hx2 hb hl
  unfold Opn.agg Ev.obj at hr1
  unfold Opn.agg Ev.obj zeroObj at hr2
  have HH := H
  clear H
  unfold Ev.agg
  go_enter Tryd.func35, Tryd.ntmps35
  go_wp2_with fail
  go_region
  all_goals
    clear hr1 hr2
    go_upto_region 2 with fail
    go_cut [28] (fun c wx => c = .bool false ∧ HistAt wx B M base cnt s ∧ EvIn wx w.heap.size e ∧ Below M w wx)
    case first =>
      go_quiet (fail)
      go_wp2
      go_meet
      refine ⟨rfl, ?_, ?_, ?_⟩
      · repeat (first | exact HH | refine HistAt.drewN ?_ _ | refine HistAt.drew ?_ | refine HistAt.alloc ?_ _)
      · exact evIn_new w e _
      · refine Below.mono (B := w.heap.size) ?_ (Nat.le_of_lt hM)
        repeat (first | exact Below.refl _ _ | refine below_drewN ?_ _ | refine Below.drew ?_ | refine belA ?_ _)
    case rest =>
      obtain ⟨rfl, HC, ⟨e0, e1, e2, e3, e4, e5, e6⟩, hbel⟩ := hcut
      clear hc hlc
      have hc := HC.mapc
      obtain ⟨w2, hr3, hm3, ht3⟩ := HC.map.drew.store hcn e.p h0 h8 (e.op n)
      have R1 := hideIt (HC.drew.turned ht3 hm3)
      have R2 := hideIt (hbel.drew.trans (below_turned ht3 (by have := HC.lt1; have := HC.lt2; have := HC.lt3; simp; omega)))
      have hk : ∀ b j, b < wc.heap.size → b ≠ M → w2.cell? ⟨b, j, none⟩ = wc.cell? ⟨b, j, none⟩ := fun b j h1 h2 => World.cell?_of_block (a := ⟨b, j, none⟩) (ht3.grown.block b h1 (fun k => h2 (Option.some.inj k)))
      have hBc : B < wc.heap.size := Nat.lt_of_lt_of_le HC.lt2 HC.lt3
      have hBM : B ≠ M := Nat.ne_of_gt HC.lt1
      have hwc : w.heap.size < wc.heap.size := World.block_lt_of_cell? wc ⟨w.heap.size, 0, none⟩ e0
      have hwM : w.heap.size ≠ M := Nat.ne_of_gt hM
      have k0 := (hk B 0 hBc hBM).trans hc
      have k1 := (hk w.heap.size 0 hwc hwM).trans e0
      have k2 := (hk w.heap.size 2 hwc hwM).trans e2
      have k3 := (hk w.heap.size 3 hwc hwM).trans e3
      have k4 := (hk w.heap.size 4 hwc hwM).trans e4
      have k5 := (hk w.heap.size 5 hwc hwM).trans e5
      clear hm3 ht3 hk
      unfold Opn.agg Ev.op at hr3
      have HC := hideIt HC
      clear hbel
      go_upto_region 4 with fail
      go_region_held3 (fun w' => w'.cell? ⟨B, 0, none⟩ = some (.map (some M)) ∧ w'.cell? ⟨w.heap.size, 0, none⟩ = some (.int .i64 e.p) ∧ w'.cell? ⟨w.heap.size, 2, none⟩ = some (.int .i64 e.k) ∧ w'.cell? ⟨w.heap.size, 3, none⟩ = some (.int .i64 e.d) ∧ w'.cell? ⟨w.heap.size, 4, none⟩ = some (.int .i64 e.a) ∧ w'.cell? ⟨w.heap.size, 5, none⟩ = some (.int .i64 e.b)) (go_keep) (fail)
      go_wp2
      go_ret
      exact ⟨rfl, R1.out, R2.out⟩
end Go.Proofs.YtbmnehnmmlfhdaaDoor
