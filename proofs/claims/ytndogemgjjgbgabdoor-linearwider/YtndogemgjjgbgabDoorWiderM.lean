/-
  A list of ops, copied behind an empty one.
-/
import Derived.Test.YtndogemgjjgbgabDoorWiderP
namespace Go.Proofs.YtndogemgjjgbgabDoor
open Go.RowKit

theorem opsAt_cons {w : World} {b off : Nat} {x : Opn} {r : List Opn} : OpsAt w b off (x :: r) ↔ OpAt w b off x ∧ OpsAt w b (off + 8) r := by
  constructor
  · intro h
    have e0 := h 0 (by simp)
    rw [Nat.zero_mul, Nat.add_zero] at e0
    refine ⟨e0, fun i hi => ?_⟩
    have := h (i + 1) (by simp; omega)
    rw [show off + (i + 1) * 8 = off + 8 + i * 8 by omega] at this
    simpa using this
  · rintro ⟨h1, h2⟩ i hi
    cases i with
    | zero => simpa using h1
    | succ i =>
      have := h2 i (by simp at hi; omega)
      rw [show off + (i + 1) * 8 = off + 8 + i * 8 by omega]
      simpa using this
theorem flatO_cons (x : Opn) (r : List Opn) : flatO (x :: r) = [.int .i64 x.p, .int .i64 x.k, .int .i64 x.d, .int .i64 x.a, .int .i64 x.b, .int .i64 x.r, .int .i64 x.c, .int .i64 x.e] ++ flatO r := by simp [flatO]
theorem OpsAt.flat {w : World} {b : Nat} : ∀ {l : List Opn} {off : Nat}, OpsAt w b off l → ∀ j u, (flatO l)[j]? = some u → w.cell? ⟨b, off + j, none⟩ = some u
  | [], _, _, j, u, hu => by simp [flatO] at hu
  | x :: r, off, h, j, u, hu => by
    obtain ⟨⟨h0, h1, h2, h3, h4, h5, h6, h7⟩, hr⟩ := opsAt_cons.1 h
    rw [flatO_cons] at hu
    by_cases hj : j < 8
    · rw [List.getElem?_append_left (by simpa using hj)] at hu
      rcases (by omega : j = 0 ∨ j = 1 ∨ j = 2 ∨ j = 3 ∨ j = 4 ∨ j = 5 ∨ j = 6 ∨ j = 7) with rfl | rfl | rfl | rfl | rfl | rfl | rfl | rfl
      · obtain rfl := Option.some.inj hu; exact h0
      · obtain rfl := Option.some.inj hu; exact h1
      · obtain rfl := Option.some.inj hu; exact h2
      · obtain rfl := Option.some.inj hu; exact h3
      · obtain rfl := Option.some.inj hu; exact h4
      · obtain rfl := Option.some.inj hu; exact h5
      · obtain rfl := Option.some.inj hu; exact h6
      · obtain rfl := Option.some.inj hu; exact h7
    · rw [List.getElem?_append_right (by simpa using hj)] at hu
      have := OpsAt.flat hr (j - 8) u (by simpa using hu)
      rw [show off + 8 + (j - 8) = off + j by omega] at this
      exact this
theorem opsAt_flat {w : World} {b : Nat} : ∀ {l : List Opn} {off : Nat}, (∀ j u, (flatO l)[j]? = some u → w.cell? ⟨b, off + j, none⟩ = some u) → OpsAt w b off l
  | [], _, _ => fun i hi => absurd hi (by simp)
  | x :: r, off, h => by
    rw [flatO_cons] at h
    refine opsAt_cons.2 ⟨⟨h 0 _ rfl, h 1 _ rfl, h 2 _ rfl, h 3 _ rfl, h 4 _ rfl, h 5 _ rfl, h 6 _ rfl, h 7 _ rfl⟩, opsAt_flat fun j u hu => ?_⟩
    have := h (j + 8) u (by rw [List.getElem?_append_right (by simp)]; simpa using hu)
    rw [show off + (j + 8) = off + 8 + j by omega] at this
    exact this
theorem flatO_one : ∀ {l : List Opn}, ∀ u ∈ flatO l, u.oneCell' = true
  | [], u, hu => by simp [flatO] at hu
  | x :: r, u, hu => by
    rw [flatO_cons, List.mem_append] at hu
    rcases hu with hu | hu
    · simp only [List.mem_cons, List.not_mem_nil, or_false] at hu
      rcases hu with rfl | rfl | rfl | rfl | rfl | rfl | rfl | rfl <;> rfl
    · exact flatO_one u hu

theorem info39 : (Tryd.prog.info? 39).map (fun i => (i.zero, i.size, i.bytes)) = some (some (.agg #[.int .i64 0, .int .i64 0, .int .i64 0, .int .i64 0, .int .i64 0, .int .i64 0, .int .i64 0, .int .i64 0]), 8, 64) := by kernel_rfl

theorem wide_app {W : World} {ops : List Opn} {a : Option Addr} {cap : Nat} (hl : OpsIn W (.slice a ops.length cap) ops) (h0 : 0 < ops.length) (h20 : ops.length ≤ 20) (ty : TypeId) :
    ∃ g c w', (Builtin.append_ #[24, 24] ty #[.slice (some ⟨W.heap.size, 0, none⟩) 0 0, .slice a ops.length cap]).run Tryd.prog (W.alloc (.cells #[] 39)) = .ok (.slice (some ⟨g, 0, none⟩) ops.length c) w' ∧
      WdAt w' g ops.length (opN ops) ∧ Below W.heap.size W w' ∧ W.heap.size ≤ g ∧ ops.length ≤ c := by
  obtain ⟨a', cap', e, hc, hm, h⟩ := hl
  obtain ⟨rfl, _, rfl⟩ : a = a' ∧ True ∧ cap = cap' := by injection e with e1 e2 e3; exact ⟨e1, trivial, e3⟩
  rcases h with h | ⟨b, off, rfl, hb, ho⟩
  · subst h; simp at h0
  obtain ⟨i, hi, hz, hs, hby⟩ := info_parts info39
  have hB : Below W.heap.size W (W.alloc (.cells #[] 39)) := belA (Below.refl _ _) _
  have hown : (W.alloc (.cells #[] 39)).ownsRow W.heap.size 39 8 (.slice (some ⟨W.heap.size, 0, none⟩) 0 0) 0 [] := World.ownsRow_made W #[] 0 (Nat.le_refl _) (by decide) (by simp)
  have ho' := ho.below hb hB
  obtain ⟨v', w', hr, hrow, hg, hnil⟩ := run_append_own (P := Tryd.prog) (W.alloc (.cells #[] 39)) W.heap.size 24 ty 39 i _ 8 64 Tryd.underlying24 hi hz hs hby rfl (by decide) _ 0 [] hown ⟨b, off, none⟩ ops.length cap (flatO ops) (flatO_len ops)
    (fun j u hu => by rw [Addr.add_lit]; exact ho'.flat j u hu) flatO_one (by unfold maxLen; omega) (by omega) (by simp)
  obtain ⟨_, hv | ⟨g, c, cur, rfl, hbg, hgg, h1, h2, h3, h4⟩⟩ := hrow
  · exact absurd hv.2 (by omega)
  · have hrow' : w'.ownsRow W.heap.size 39 8 (.slice (some ⟨g, 0, none⟩) (0 + ops.length) c) (0 + ops.length) ([] ++ flatO ops) := ⟨by simp [flatO_len], .inr ⟨g, c, cur, rfl, hbg, hgg, h1, h2, h3, h4⟩⟩
    rw [Nat.zero_add] at hr h1
    refine ⟨g, c, w', hr, ⟨⟨cur, hgg⟩, fun k hk => ?_⟩, hB.grown hg (by simp) (fun k hk => by simp [Value.ownBlock] at hk; omega), hbg, h1⟩
    have := opsAt_flat (l := ops) (off := 0) (w := w') (b := g) (fun j u hu => by
      have := hrow'.cells (g := g) rfl j u (by simpa using hu)
      rwa [Addr.add_lit] at this) k hk
    rw [Nat.zero_add] at this
    rw [opN_at hk]; exact this

end Go.Proofs.YtndogemgjjgbgabDoor
