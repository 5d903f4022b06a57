/-
  What end of a history does: laws on memory first.
-/
import Derived.Test.YtbmnehnmmlfhdaaDoorHistA
import Derived.Laws.AppendOwn
namespace Go.Proofs.YtbmnehnmmlfhdaaDoor
open Go.RowKit

theorem info31 : (Tryd.prog.info? 51).map (fun i => (i.zero, i.size, i.bytes)) = some (some (.agg #[.int .i64 0, .int .i64 0, .int .i64 0, .int .i64 0, .int .i64 0, .int .i64 0, .int .i64 0, .int .i64 0]), 8, 64) := by kernel_rfl

theorem opCells_snoc (l : List Opn) (x : Opn) : opCells (l ++ [x]) = opCells l ++ x.list := by simp [opCells]

/-- A cell of a history's struct is set, its others are not. -/
theorem hist_setRow {w w4 : World} {B M base cnt : Nat} {s : Hs} {v' : Value} {done : List Opn} (h : HistAt w B M base cnt s) (hc : ∀ j, w4.cell? ⟨B, j, none⟩ = w.cell? ⟨B, j, none⟩) (hf : ∀ j, w4.frozen? ⟨B, j, none⟩ = w.frozen? ⟨B, j, none⟩)
    (hm : MapIs w4 M cnt s.busy) (hsz : base ≤ w4.heap.size) (ho : w4.ownsRow base 51 8 v' done.length (opCells done)) : HistAt (w4.setCell ⟨B, 9, none⟩ v') B M base cnt ⟨s.busy, s.lost, done⟩ := by
  obtain ⟨v, h1, h2, h3⟩ := h.row
  have hcell9 : w4.cell? ⟨B, 9, none⟩ = some v := (hc 9).trans h1
  have hother : ∀ j, j ≠ 9 → (w4.setCell ⟨B, 9, none⟩ v').cell? ⟨B, j, none⟩ = w4.cell? ⟨B, j, none⟩ := fun j hj => World.cell?_setCell_other (h := fun k => hj (congrArg Addr.off k).symm) ..
  have hfz : ∀ a, (w4.setCell ⟨B, 9, none⟩ v').frozen? a = w4.frozen? a := fun a => by simp
  refine ⟨by rw [hother 0 (by decide), hc]; exact h.mapc, fun p p0 p8 => ?_, ⟨v', ?_, by rw [hfz, hf]; exact h2, ?_⟩, hm.setCell (Nat.ne_of_lt h.lt1) _, h.lt1, h.lt2, by simpa using hsz⟩
  · rw [hother _ (by omega), hc, hfz, hf]; exact h.lost p p0 p8
  · exact World.cell?_setCell_same (h := hcell9) ..
  · exact ownsRow_setCell_below ho h.lt2 _

/-- A process is lost: its cell is set. -/
theorem hist_setLost {w : World} {B M base cnt : Nat} {s : Hs} (h : HistAt w B M base cnt s) (p : Int) (h0 : 0 ≤ p) (h8 : p < 8) : HistAt (w.setCell ⟨B, 1 + p.toNat, none⟩ (.bool true)) B M base cnt ⟨s.busy, setB s.lost p true, s.done⟩ := by
  obtain ⟨v, h1, h2, h3⟩ := h.row
  have hother : ∀ j, j ≠ 1 + p.toNat → (w.setCell ⟨B, 1 + p.toNat, none⟩ (.bool true)).cell? ⟨B, j, none⟩ = w.cell? ⟨B, j, none⟩ := fun j hj => World.cell?_setCell_other (h := fun k => hj (congrArg Addr.off k).symm) ..
  have hfz : ∀ a, (w.setCell ⟨B, 1 + p.toNat, none⟩ (.bool true)).frozen? a = w.frozen? a := fun a => by simp
  refine ⟨by rw [hother 0 (by omega)]; exact h.mapc, fun q q0 q8 => ?_, ⟨v, by rw [hother 9 (by omega)]; exact h1, by rw [hfz]; exact h2, ownsRow_setCell_below h3 h.lt2 _⟩, h.map.setCell (Nat.ne_of_lt h.lt1) _, h.lt1, h.lt2, by simpa using h.lt3⟩
  by_cases e : q = p
  · subst e
    refine ⟨?_, by rw [hfz]; exact (h.lost q q0 q8).2⟩
    rw [World.cell?_setCell_same (h := (h.lost q q0 q8).1) ..]
    simp [setB]
  · rw [hother _ (by omega), hfz]
    have := h.lost q q0 q8
    simpa [setB, e] using this

theorem below_setB {w W : World} {M B j : Nat} {u : Value} (h : Below M w W) (hB : M ≤ B) : Below M w (W.setCell ⟨B, j, none⟩ u) := h.setCell hB u

/-- What append does to the row of a history: the equation of its run, and what holds then. -/
theorem hist_append {w : World} {B M base cnt : Nat} {s : Hs} {v : Value} (h : HistAt w B M base cnt s) (hv : w.cell? ⟨B, 9, none⟩ = some v) (hn : s.done.length ≤ 200) (x : Opn) (ty : TypeId) :
    ∃ g cap w4, (Builtin.append_ #[47, 47] ty #[v, .slice (some ⟨w.heap.size, 0, none⟩) 1 1]).run Tryd.prog (w.alloc (.cells #[.int .i64 x.p, .int .i64 x.k, .int .i64 x.d, .int .i64 x.a, .int .i64 x.b, .int .i64 x.r, .int .i64 x.c, .int .i64 x.e] 51)).drew = .ok (.slice (some ⟨g, 0, none⟩) (s.done.length + 1) cap) w4 ∧
      (∀ b j, b ≤ w.heap.size → v.ownBlock ≠ some b → w4.cell? ⟨b, j, none⟩ = (w.alloc (.cells #[.int .i64 x.p, .int .i64 x.k, .int .i64 x.d, .int .i64 x.a, .int .i64 x.b, .int .i64 x.r, .int .i64 x.c, .int .i64 x.e] 51)).cell? ⟨b, j, none⟩ ∧ w4.frozen? ⟨b, j, none⟩ = (w.alloc (.cells #[.int .i64 x.p, .int .i64 x.k, .int .i64 x.d, .int .i64 x.a, .int .i64 x.b, .int .i64 x.r, .int .i64 x.c, .int .i64 x.e] 51)).frozen? ⟨b, j, none⟩) ∧
      HistAt (w4.setCell ⟨B, 9, none⟩ (.slice (some ⟨g, 0, none⟩) (s.done.length + 1) cap)) B M base cnt ⟨s.busy, s.lost, s.done ++ [x]⟩ ∧ Below M w (w4.setCell ⟨B, 9, none⟩ (.slice (some ⟨g, 0, none⟩) (s.done.length + 1) cap)) := by
  obtain ⟨v0, h1, h2, h3⟩ := h.row
  obtain rfl := Option.some.inj (hv.symm.trans h1)
  obtain ⟨i0, hi, hz0, hz1, hz2⟩ := info_parts info31
  have hl3 := h.lt3
  have hl2 := h.lt2
  have hl1 := h.lt1
  obtain ⟨v', w4, hr, ho, hg, _⟩ := run_append_own (P := Tryd.prog) (w.alloc (.cells #[.int .i64 x.p, .int .i64 x.k, .int .i64 x.d, .int .i64 x.a, .int .i64 x.b, .int .i64 x.r, .int .i64 x.c, .int .i64 x.e] 51)).drew base 47 ty 51 i0 _ 8 64 Tryd.underlying47 hi hz0 hz1 hz2 rfl (by decide) v s.done.length (opCells s.done) (h3.alloc _).drew ⟨w.heap.size, 0, none⟩ 1 1 x.list rfl
    (by
      intro j u hj
      match j, hj with
      | 0, hj => simp [Opn.list] at hj; subst hj; simp [Addr.add]
      | 1, hj => simp [Opn.list] at hj; subst hj; simp [Addr.add]
      | 2, hj => simp [Opn.list] at hj; subst hj; simp [Addr.add]
      | 3, hj => simp [Opn.list] at hj; subst hj; simp [Addr.add]
      | 4, hj => simp [Opn.list] at hj; subst hj; simp [Addr.add]
      | 5, hj => simp [Opn.list] at hj; subst hj; simp [Addr.add]
      | 6, hj => simp [Opn.list] at hj; subst hj; simp [Addr.add]
      | 7, hj => simp [Opn.list] at hj; subst hj; simp [Addr.add]
      | n + 8, hj => simp [Opn.list] at hj)
    (by intro u hu; simp [Opn.list] at hu; rcases hu with rfl | rfl | rfl | rfl | rfl | rfl | rfl | rfl <;> rfl)
    (by unfold maxLen; omega) (by omega) (by simp; omega)
  obtain ⟨g, cap, rfl⟩ : ∃ g cap, v' = .slice (some ⟨g, 0, none⟩) (s.done.length + 1) cap := by
    rcases ho.2 with ⟨_, h⟩ | ⟨g, cap, _, h, _⟩
    · omega
    · exact ⟨g, cap, h⟩
  have hrow : ∀ k, v.ownBlock = some k → base ≤ k := fun k hk => (h3.lt k hk).1
  have hblk : ∀ b, b ≤ w.heap.size → v.ownBlock ≠ some b → w4.heap[b]? = (w.alloc (.cells #[.int .i64 x.p, .int .i64 x.k, .int .i64 x.d, .int .i64 x.a, .int .i64 x.b, .int .i64 x.r, .int .i64 x.c, .int .i64 x.e] 51)).heap[b]? := fun b hb hne => hg.block b (by simp; omega) (Ne.symm hne)
  have hcf : ∀ b j, b ≤ w.heap.size → v.ownBlock ≠ some b → w4.cell? ⟨b, j, none⟩ = (w.alloc (.cells #[.int .i64 x.p, .int .i64 x.k, .int .i64 x.d, .int .i64 x.a, .int .i64 x.b, .int .i64 x.r, .int .i64 x.c, .int .i64 x.e] 51)).cell? ⟨b, j, none⟩ ∧ w4.frozen? ⟨b, j, none⟩ = (w.alloc (.cells #[.int .i64 x.p, .int .i64 x.k, .int .i64 x.d, .int .i64 x.a, .int .i64 x.b, .int .i64 x.r, .int .i64 x.c, .int .i64 x.e] 51)).frozen? ⟨b, j, none⟩ := fun b j hb hne =>
    ⟨World.cell?_of_block (a := ⟨b, j, none⟩) (hblk b hb hne), World.frozen?_of_block (a := ⟨b, j, none⟩) (hblk b hb hne)⟩
  have hBne : v.ownBlock ≠ some B := fun k => by have := hrow B k; omega
  have hMne : some M ≠ v.ownBlock := fun k => by have := hrow M k.symm; omega
  refine ⟨g, cap, w4, hr, hcf, ?_, ?_⟩
  · refine hist_setRow (s := s) (h.alloc (.cells #[.int .i64 x.p, .int .i64 x.k, .int .i64 x.d, .int .i64 x.a, .int .i64 x.b, .int .i64 x.r, .int .i64 x.c, .int .i64 x.e] 51)) (fun j => (hcf B j (by omega) hBne).1) (fun j => (hcf B j (by omega) hBne).2) ((h.map.alloc _).drew.kept hg hMne) ?_ ?_
    · have := hg.size
      simp at this
      omega
    · rw [opCells_snoc, List.length_append]; exact ho
  · refine below_setB ?_ (by omega)
    exact ((Below.refl M w).alloc (by omega) _).drew.grown hg (by simp; omega) (fun k hk => by have := hrow k hk; omega)

end Go.Proofs.YtbmnehnmmlfhdaaDoor
