/-
  Events as plain data, and rows of them in memory.
-/
import Derived.Test.YtkedbcfejcakaaaDoorWalkB
namespace Go.Proofs.YtkedbcfejcakaaaDoor
open Go.RowKit

/-- An event, its seven numbers. -/
structure Ev where
  p : Int
  t : Int
  k : Int
  d : Int
  a : Int
  b : Int
  r : Int

def Ev.cells (e : Ev) : List Value := [.int .i64 e.p, .int .i64 e.t, .int .i64 e.k, .int .i64 e.d, .int .i64 e.a, .int .i64 e.b, .int .i64 e.r]
def evCells (l : List Ev) : List Value := l.flatMap Ev.cells

/-- The seven cells of an event, from a place on. -/
def EvAt (w : World) (b off : Nat) (e : Ev) : Prop :=
  w.cell? ⟨b, off, none⟩ = some (.int .i64 e.p) ∧ w.cell? ⟨b, off + 1, none⟩ = some (.int .i64 e.t) ∧ w.cell? ⟨b, off + 2, none⟩ = some (.int .i64 e.k) ∧ w.cell? ⟨b, off + 3, none⟩ = some (.int .i64 e.d) ∧ w.cell? ⟨b, off + 4, none⟩ = some (.int .i64 e.a) ∧ w.cell? ⟨b, off + 5, none⟩ = some (.int .i64 e.b) ∧ w.cell? ⟨b, off + 6, none⟩ = some (.int .i64 e.r)

/-- A row of events, from a place on. -/
def EvsAt (w : World) (b off : Nat) (l : List Ev) : Prop := ∀ i, (h : i < l.length) → EvAt w b (off + i * 7) l[i]

theorem info30 : (Tryd.prog.info? 30).map (fun i => (i.zero, i.size, i.bytes)) = some (some (.agg #[.int .i64 0, .int .i64 0, .int .i64 0, .int .i64 0, .int .i64 0, .int .i64 0, .int .i64 0]), 7, 56) := by kernel_rfl

theorem EvAt.below {w w' : World} {B b off : Nat} {e : Ev} (h : EvAt w b off e) (hb : b < B) (hn : Below B w w') : EvAt w' b off e := by
  obtain ⟨h0, h1, h2, h3, h4, h5, h6⟩ := h
  exact ⟨(hn.cell (p := ⟨b, off, none⟩) hb).trans h0, (hn.cell (p := ⟨b, off + 1, none⟩) hb).trans h1, (hn.cell (p := ⟨b, off + 2, none⟩) hb).trans h2, (hn.cell (p := ⟨b, off + 3, none⟩) hb).trans h3, (hn.cell (p := ⟨b, off + 4, none⟩) hb).trans h4, (hn.cell (p := ⟨b, off + 5, none⟩) hb).trans h5, (hn.cell (p := ⟨b, off + 6, none⟩) hb).trans h6⟩

theorem evCells_take_succ (l : List Ev) (k : Nat) (h : k < l.length) : evCells (l.take (k + 1)) = evCells (l.take k) ++ l[k].cells := by
  unfold evCells
  rw [List.take_succ_eq_append_getElem h, List.flatMap_append]
  simp

set_option maxHeartbeats 1000000 in
theorem events_any (l : List Ev) (b off cap : Nat) (w : World) (hlen : l.length ≤ 150) (hb : b < w.heap.size) (hc : EvsAt w b off l) :
    Calls Tryd.prog 10 #[.slice (some ⟨b, off, none⟩) l.length cap] w fun e w' => ∃ v, e = .returned v ∧ w'.ownsRow w.heap.size 30 7 v l.length (evCells l) ∧ Below w.heap.size w w' := by
  have HC : Hid (EvsAt w b off l) := hc
  clear hc
  obtain ⟨i0, hi, hz0, hz1, hz2⟩ := info_parts info30
  go_enter Tryd.func10, Tryd.ntmps10
  go_wp2
  go_loopw [3, 4] (fun v i wr => ∃ k : Nat, k ≤ l.length ∧ i = .int .i64 k ∧ wr.ownsRow w.heap.size 30 7 v k (evCells (l.take k)) ∧ Below w.heap.size w wr) (fun _ i _ => l.length - (intOf i).toNat)
  case atStart => exact ⟨0, Nat.zero_le _, rfl, World.ownsRow_nil _ _ _ _, Below.refl _ _⟩
  case round =>
    obtain ⟨k, hk, rfl, hown, hnx⟩ := hrel
    by_cases hlt : k < l.length
    · obtain ⟨c0, c1, c2, c3, c4, c5, c6⟩ := (HC.out k hlt).below hb hnx
      have hsz := hnx.size
      go_wp2_with (at_builtin; refine wpList_append_own _ rfl _ _ 31 rfl w.heap.size 30 i0 _ 7 56 Tryd.underlying31 hi hz0 hz1 hz2 rfl (by decide) _ _ _ rfl ((hown.alloc _).alloc _) ⟨wr.heap.size + 1, 0, none⟩ 1 1 l[k].cells rfl rfl ?c1 ?c2 ?c3 ?c4 ?c5 ?_)
      case c1 =>
        intro j u hj
        match j, hj with
        | 0, hj => simp [Ev.cells] at hj; subst hj; simp [Addr.add]
        | 1, hj => simp [Ev.cells] at hj; subst hj; simp [Addr.add]
        | 2, hj => simp [Ev.cells] at hj; subst hj; simp [Addr.add]
        | 3, hj => simp [Ev.cells] at hj; subst hj; simp [Addr.add]
        | 4, hj => simp [Ev.cells] at hj; subst hj; simp [Addr.add]
        | 5, hj => simp [Ev.cells] at hj; subst hj; simp [Addr.add]
        | 6, hj => simp [Ev.cells] at hj; subst hj; simp [Addr.add]
        | n + 7, hj => simp [Ev.cells] at hj
      case c2 => intro u hu; simp [Ev.cells] at hu; rcases hu with rfl | rfl | rfl | rfl | rfl | rfl | rfl <;> rfl
      case c3 => unfold maxLen; omega
      case c4 => omega
      case c5 => simp; omega
      · intro v' w1 hown' hgrow _
        have R1 : Hid (w1.ownsRow w.heap.size 30 7 v' (k + 1) (evCells (l.take (k + 1)))) := by
          show w1.ownsRow w.heap.size 30 7 v' (k + 1) (evCells (l.take (k + 1)))
          rw [evCells_take_succ l k hlt]; exact hown'
        have R2 : Hid (Below w.heap.size w w1) := ((hnx.alloc hsz _).alloc (by simp; omega) _).grown hgrow (by simp; omega) (fun g hg => (hown.lt g hg).1)
        clear hown' hgrow hown c0 c1 c2 c3 c4 c5 c6
        go_wp2
        go_roundw
        case rel => exact ⟨k + 1, by omega, by go_num, R1.out, R2.out⟩
        case measure => simp [intOf]; omega
    · have hown2 := hown
      rw [show k = l.length from by omega, List.take_length] at hown2
      go_wp2
      go_ret
      exact ⟨_, rfl, hown2, hnx⟩
end Go.Proofs.YtkedbcfejcakaaaDoor
