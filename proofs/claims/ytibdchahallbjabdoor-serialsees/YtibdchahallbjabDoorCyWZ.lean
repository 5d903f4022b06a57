/-
  The document's search for a way round, walked.
  The document's Cycle, walked.
-/
import Derived.Test.YtibdchahallbjabDoorSmBZ
import Derived.Test.YtibdchahallbjabDoorGhPZ
import Derived.Laws.EntriesVeiled
import Derived.Deep.CutBlock
namespace Go.Proofs.YtibdchahallbjabDoor
open Go.RowKit

theorem findSome_at {α : Type} {F : Nat → Option α} {n k : Nat} {c : α} (hk : k < n) (h : F k = some c) (ha : ∀ j, j < k → F j = none) : (List.range n).findSome? F = some c := by
  rcases findSome_cases F n with ⟨_, h'⟩ | ⟨j, d, hj, e, hf, hb⟩
  · rw [h' k hk] at h; cases h
  · rcases Nat.lt_trichotomy j k with h1 | h1 | h1
    · rw [ha j h1] at hf; cases hf
    · subst h1; rw [e, ← hf, h]
    · rw [hb k h1] at h; cases h
theorem findSome_no {α : Type} {F : Nat → Option α} {n : Nat} (ha : ∀ j, j < n → F j = none) : (List.range n).findSome? F = none := by
  rcases findSome_cases F n with ⟨e, _⟩ | ⟨j, d, hj, _, hf, _⟩
  · exact e
  · rw [ha j hj] at hf; cases hf

/-- What the search works on: the boxes of the graph (G), the length (N), what is found (F), the row (F + 1), itself (F + 2). -/
structure CyAt (a : Option Addr) (n cap m : Nat) (w0 : World) (G N F : Nat) (w : World) (way : List Nat) (fv : Value) : Prop where
  bel : Below w0.heap.size w0 w
  gb : w.cell? ⟨G, 0, none⟩ = some (.slice a n cap)
  nb : w.cell? ⟨N, 0, none⟩ = some (.int .i64 (m : Int))
  fb : ∃ cur t, w.heap[F]? = some (.cells cur t (0, 0))
  fc : w.cell? ⟨F, 0, none⟩ = some fv
  wb : ∃ cur t, w.heap[F + 1]? = some (.cells cur t (0, 0))
  wc : ∃ v, w.cell? ⟨F + 1, 0, none⟩ = some v ∧ RowAt w (F + 1 + 1 + 1) v (natI way)
  kc : w.cell? ⟨F + 1 + 1, 0, none⟩ = some (.func (Fn.func 49) #[] #[.pointer (some ⟨F + 1, 0, none⟩), .pointer (some ⟨N, 0, none⟩), .pointer (some ⟨G, 0, none⟩), .pointer (some ⟨F, 0, none⟩), .pointer (some ⟨F + 1 + 1, 0, none⟩)])
structure CyOk (w0 : World) (G N F : Nat) : Prop where
  g0 : w0.heap.size ≤ G
  gn : G < N
  nf : N < F
section
variable {a : Option Addr} {n cap m : Nat} {w0 w w' : World} {G N F : Nat} {way : List Nat} {fv : Value}
theorem CyAt.lt (h : CyAt a n cap m w0 G N F w way fv) : F + 1 + 1 < w.heap.size := World.block_lt_of_cell? w _ h.kc
/-- Blocks that a part of the search may turn: none of those below the row's own but F and F + 1. -/
theorem CyAt.kept (h : CyAt a n cap m w0 G N F w way fv) (hk : ∀ b, b < F + 1 + 1 + 1 → w'.heap[b]? = w.heap[b]?) (hb : Below w0.heap.size w0 w') (ok : CyOk w0 G N F) (hw : ∀ v, w.cell? ⟨F + 1, 0, none⟩ = some v → RowAt w (F + 1 + 1 + 1) v (natI way) → RowAt w' (F + 1 + 1 + 1) v (natI way)) : CyAt a n cap m w0 G N F w' way fv := by
  have h1 := ok.gn
  have h2 := ok.nf
  have hc : ∀ b, b < F + 1 + 1 + 1 → w'.cell? ⟨b, 0, none⟩ = w.cell? ⟨b, 0, none⟩ := fun b hb => World.cell?_of_block (a := ⟨b, 0, none⟩) (hk b hb)
  obtain ⟨c1, t1, e1⟩ := h.fb
  obtain ⟨c2, t2, e2⟩ := h.wb
  obtain ⟨v, hv, hr⟩ := h.wc
  exact ⟨hb, (hc G (by omega)).trans h.gb, (hc N (by omega)).trans h.nb, ⟨c1, t1, (hk F (by omega)).trans e1⟩, (hc F (by omega)).trans h.fc, ⟨c2, t2, (hk (F + 1) (by omega)).trans e2⟩, ⟨v, (hc (F + 1) (by omega)).trans hv, hw v hv hr⟩, (hc (F + 1 + 1) (by omega)).trans h.kc⟩
theorem CyAt.below (h : CyAt a n cap m w0 G N F w way fv) (ok : CyOk w0 G N F) (hb : Below w.heap.size w w') : CyAt a n cap m w0 G N F w' way fv :=
  h.kept (fun b hb' => hb.block b (by have := h.lt; omega)) (belJ h.bel hb) ok fun _ _ hr => hr.belowR hb
theorem CyAt.fzF (h : CyAt a n cap m w0 G N F w way fv) : w.frozen? ⟨F, 0, none⟩ = false := by
  obtain ⟨c1, t1, e1⟩ := h.fb
  exact frozen_of_row w _ 0 _ t1 e1
theorem CyAt.fzW (h : CyAt a n cap m w0 G N F w way fv) : w.frozen? ⟨F + 1, 0, none⟩ = false := by
  obtain ⟨c1, t1, e1⟩ := h.wb
  exact frozen_of_row w _ 0 _ t1 e1
/-- Something else is found. -/
theorem CyAt.find (h : CyAt a n cap m w0 G N F w way fv) (ok : CyOk w0 G N F) (v : Value) : CyAt a n cap m w0 G N F (w.setCell ⟨F, 0, none⟩ v) way v := by
  have h0 := ok.g0
  have h1 := ok.gn
  have h2 := ok.nf
  obtain ⟨c1, t1, e1⟩ := h.fb
  obtain ⟨c2, t2, e2⟩ := h.wb
  obtain ⟨c3, e3, _⟩ := heap_setCell e1 0 v
  obtain ⟨v0, hv0, hr⟩ := h.wc
  have ho : ∀ b, b ≠ F → (w.setCell ⟨F, 0, none⟩ v).cell? ⟨b, 0, none⟩ = w.cell? ⟨b, 0, none⟩ := fun b hb => World.cell?_setCell_other _ _ _ _ (blkNe (Ne.symm hb))
  exact ⟨h.bel.setCell (p := ⟨F, 0, none⟩) (by show w0.heap.size ≤ F; omega) v, (ho G (by omega)).trans h.gb, (ho N (by omega)).trans h.nb, ⟨c3, t1, e3⟩, World.cell?_setCell_same _ _ _ h.fc, ⟨c2, t2, (Below.heap_setCell w ⟨F, 0, none⟩ v (F + 1) (by show F + 1 ≠ F; omega)).trans e2⟩,
    ⟨v0, (ho (F + 1) (by omega)).trans hv0, hr.setOther (p := ⟨F, 0, none⟩) (by show F < F + 1 + 1 + 1; omega) v⟩, (ho (F + 1 + 1) (by omega)).trans h.kc⟩
end

/-- The boxes alone. -/
structure CyBx (a : Option Addr) (n cap m : Nat) (w0 : World) (G N F : Nat) (w : World) (fv : Value) : Prop where
  bel : Below w0.heap.size w0 w
  gb : w.cell? ⟨G, 0, none⟩ = some (.slice a n cap)
  nb : w.cell? ⟨N, 0, none⟩ = some (.int .i64 (m : Int))
  fb : ∃ cur t, w.heap[F]? = some (.cells cur t (0, 0))
  fc : w.cell? ⟨F, 0, none⟩ = some fv
  wb : ∃ cur t, w.heap[F + 1]? = some (.cells cur t (0, 0))
  wc : ∃ v, w.cell? ⟨F + 1, 0, none⟩ = some v
  kc : w.cell? ⟨F + 1 + 1, 0, none⟩ = some (.func (Fn.func 49) #[] #[.pointer (some ⟨F + 1, 0, none⟩), .pointer (some ⟨N, 0, none⟩), .pointer (some ⟨G, 0, none⟩), .pointer (some ⟨F, 0, none⟩), .pointer (some ⟨F + 1 + 1, 0, none⟩)])
section
variable {a : Option Addr} {n cap m : Nat} {w0 w w' : World} {G N F : Nat} {way : List Nat} {fv : Value}
theorem CyAt.bx (h : CyAt a n cap m w0 G N F w way fv) : CyBx a n cap m w0 G N F w fv := by
  obtain ⟨v, hv, _⟩ := h.wc
  exact ⟨h.bel, h.gb, h.nb, h.fb, h.fc, h.wb, ⟨v, hv⟩, h.kc⟩
theorem CyBx.kept (h : CyBx a n cap m w0 G N F w fv) (hk : ∀ b, b < F + 1 + 1 + 1 → w'.heap[b]? = w.heap[b]?) (hb : Below w0.heap.size w0 w') (ok : CyOk w0 G N F) : CyBx a n cap m w0 G N F w' fv := by
  have h1 := ok.gn
  have h2 := ok.nf
  have hc : ∀ b, b < F + 1 + 1 + 1 → w'.cell? ⟨b, 0, none⟩ = w.cell? ⟨b, 0, none⟩ := fun b hb => World.cell?_of_block (a := ⟨b, 0, none⟩) (hk b hb)
  obtain ⟨c1, t1, e1⟩ := h.fb
  obtain ⟨c2, t2, e2⟩ := h.wb
  obtain ⟨v, hv⟩ := h.wc
  exact ⟨hb, (hc G (by omega)).trans h.gb, (hc N (by omega)).trans h.nb, ⟨c1, t1, (hk F (by omega)).trans e1⟩, (hc F (by omega)).trans h.fc, ⟨c2, t2, (hk (F + 1) (by omega)).trans e2⟩, ⟨v, (hc (F + 1) (by omega)).trans hv⟩, (hc (F + 1 + 1) (by omega)).trans h.kc⟩
theorem CyBx.row (h : CyBx a n cap m w0 G N F w fv) (ok : CyOk w0 G N F) {v : Value} {way' : List Nat} (hr : RowAt w (F + 1 + 1 + 1) v (natI way')) : CyAt a n cap m w0 G N F (w.setCell ⟨F + 1, 0, none⟩ v) way' fv := by
  have h0 := ok.g0
  have h1 := ok.gn
  have h2 := ok.nf
  obtain ⟨c1, t1, e1⟩ := h.fb
  obtain ⟨c2, t2, e2⟩ := h.wb
  obtain ⟨c3, e3, _⟩ := heap_setCell e2 0 v
  obtain ⟨v0, hv0⟩ := h.wc
  have ho : ∀ b, b ≠ F + 1 → (w.setCell ⟨F + 1, 0, none⟩ v).cell? ⟨b, 0, none⟩ = w.cell? ⟨b, 0, none⟩ := fun b hb => World.cell?_setCell_other _ _ _ _ (blkNe (Ne.symm hb))
  exact ⟨h.bel.setCell (p := ⟨F + 1, 0, none⟩) (by show w0.heap.size ≤ F + 1; omega) v, (ho G (by omega)).trans h.gb, (ho N (by omega)).trans h.nb, ⟨c1, t1, (Below.heap_setCell w ⟨F + 1, 0, none⟩ v F (by show F ≠ F + 1; omega)).trans e1⟩, (ho F (by omega)).trans h.fc, ⟨c3, t2, e3⟩,
    ⟨v, World.cell?_setCell_same _ _ _ hv0, hr.setOther (p := ⟨F + 1, 0, none⟩) (by show F + 1 < F + 1 + 1 + 1; omega) v⟩, (ho (F + 1 + 1) (by omega)).trans h.kc⟩
theorem CyBx.fzW (h : CyBx a n cap m w0 G N F w fv) : w.frozen? ⟨F + 1, 0, none⟩ = false := by
  obtain ⟨c1, t1, e1⟩ := h.wb
  exact frozen_of_row w _ 0 _ t1 e1
end

/-- What a part of the search tells. -/
def CyTold (a : Option Addr) (n cap m : Nat) (w0 : World) (G N F : Nat) (g : Nat → Nat → Bool) (f : Nat) (way : List Nat) (fv : Value) (e : Ending) (w' : World) : Prop :=
  (e = .returned (.bool false) ∧ cycW g n f way = none ∧ CyAt a n cap m w0 G N F w' way fv) ∨
  ∃ c v way', e = .returned (.bool true) ∧ cycW g n f way = some c ∧ CyAt a n cap m w0 G N F w' way' v ∧ HasI w' v (natI c)

set_option maxRecDepth 100000 in
set_option maxHeartbeats 4000000 in
theorem walk_any (R : List (List Bool)) (ok : ckG R = 0) (a : Option Addr) (cap m : Nat) (w0 : World) (hg : GrQ w0 a R) (G N F : Nat) (hok : CyOk w0 G N F) (hm : m ≤ R.length) : ∀ (f : Nat) (way : List Nat) (fv : Value) (w : World), way.length + f = m → 0 < way.length → (∀ x ∈ way, x < R.length) → CyAt a R.length cap m w0 G N F w way fv →
    Calls Tryd.prog 49 #[.pointer (some ⟨F + 1, 0, none⟩), .pointer (some ⟨N, 0, none⟩), .pointer (some ⟨G, 0, none⟩), .pointer (some ⟨F, 0, none⟩), .pointer (some ⟨F + 1 + 1, 0, none⟩)] w fun e w' => CyTold a R.length cap m w0 G N F (gB R) f way fv e w'
  | 0, way, fv, w, hf, h0, hlt, hc => by
    have h40 := (ckG_ok ok).1
    obtain rfl : way.length = m := by omega
    obtain ⟨v, hv, hrow⟩ := hc.wc
    obtain ⟨va, vc, rfl⟩ := hrow.slice
    have HC := hideIt hc
    have HI := hideIt hrow.hasI
    have hI := hrow.hasI
    obtain ⟨a2, c2, e2, hlc, hcells⟩ := hI
    injection e2 with e3 e4 e5
    subst e3 e5
    obtain ⟨rb, ro, rfl, r0⟩ := hcells 0 (by rw [natI_len]; exact h0)
    obtain ⟨rb', ro', er, r1⟩ := hcells (way.length - 1) (by rw [natI_len]; omega)
    injection er with er
    injection er with er1 er2
    subst er1 er2
    rw [natI_at h0, Nat.add_zero] at r0
    rw [natI_at (by omega)] at r1
    have HCell : Hid (∀ j (h : j < (natI way).length), w.cell? ⟨rb, ro + j, none⟩ = some (.int .i64 (natI way)[j])) := fun j hj => by
      obtain ⟨b3, o3, e3, h3⟩ := hcells j hj
      injection e3 with e3
      injection e3 with e31 e32
      subst e31 e32
      exact h3
    have hll : (natI way).length = way.length := natI_len way
    have HCy : Hid (cycW (gB R) R.length 0 way = if gB R way[way.length - 1] way[0] then some way else none) := by
      show cycW (gB R) R.length 0 way = _
      rw [cycW, getLastD_at h0, headD_at h0]
    have hl1 := hlt _ (List.getElem_mem (show way.length - 1 < way.length by omega))
    have hl2 := hlt _ (List.getElem_mem h0)
    obtain ⟨b, off, rfl, hb, gr, go, gc, q0, _, hgr, hq⟩ := (hg.below hc.bel).at ok hl1
    have q1 := hq _ hl2
    have x0 := hc.gb
    have x1 := hc.nb
    have x2 := hc.fc
    have z2 := hc.fzF
    generalize way[way.length - 1] = last at r1 HCy hl1 q0 q1 hq
    generalize way[0] = fst at r0 HCy hl2 q1
    generalize gB R last fst = gb at q1 HCy
    have hl1' : (last : Int) < R.length := by omega
    have hl2' : (fst : Int) < R.length := by omega
    have h0' : (0 : Int) < way.length := by omega
    rw [hll] at hv hlc
    clear hcells hq hc hrow
    go_enter Tryd.func49, Tryd.ntmps49
    go_upto_region 3 with fail
    go_quiet (fail)
    have HCq : Hid (CyAt (some ⟨b, off, none⟩) R.length cap way.length w0 G N F (w.drewN nq) way fv) := HC.out.below hok (below_drewN (Below.refl _ _) _)
    have HCellq : Hid (∀ j (h : j < (natI way).length), (w.drewN nq).cell? ⟨rb, ro + j, none⟩ = some (.int .i64 (natI way)[j])) := HCell.out
    have hvq : (w.drewN nq).cell? ⟨F + 1, 0, none⟩ = some (.slice (some ⟨rb, ro, none⟩) way.length vc) := hv
    have x2q := HCq.out.fc
    have z2q := HCq.out.fzF
    clear HC HCell hv x0 x1 x2 z2 q0 q1 r0 r1 HI
    generalize w.drewN nq = wq at HCq HCellq hvq x2q z2q ⊢
    cases gb
    · go_wp2
      go_ret
      exact .inl ⟨rfl, by rw [HCy.out]; rfl, HCq.out⟩
    · have hFl : F + 1 < wq.heap.size := by have := HCq.out.lt; omega
      have hFn : ¬ F + 1 = wq.heap.size := by omega
      have hFn' : ¬ wq.heap.size = F + 1 := by omega
      have HCe : Hid (∀ j (h : j < (natI way).length), (wq.alloc (.cells #[] 3)).cell? ⟨rb, ro + j, none⟩ = some (.int .i64 (natI way)[j])) := fun j hj => by
        rw [World.cell?_alloc_lt _ _ ⟨rb, ro + j, none⟩ (World.block_lt_of_cell? wq _ (HCellq.out j hj))]
        exact HCellq.out j hj
      have HCa : Hid (CyAt (some ⟨b, off, none⟩) R.length cap way.length w0 G N F (wq.alloc (.cells #[] 3)) way fv) := HCq.out.below hok (belA (Below.refl _ _) _)
      have HSn : Hid (natI way = natI way ∧ (natI way).length = way.length) := ⟨rfl, hll⟩
      clear hll
      go_wp2_with (at_builtin; refine wpList_append_all rfl _ _ rfl ⟨wq.heap.size, 0, none⟩ rfl (natI way) ?c1 ?c2 rb ro vc ?c3 HCe.out ?_)
      case c1 => rw [HSn.out.2]; exact h0
      case c2 => rw [HSn.out.2]; omega
      case c3 => rw [HSn.out.2]
      intro v' w3 hr hgw
      obtain ⟨xa, xc, rfl⟩ := hr.slice
      have hb3 : Below (wq.alloc (.cells #[] 3)).heap.size (wq.alloc (.cells #[] 3)) w3 := (Below.refl _ _).grown hgw (Nat.le_refl _) (fun k hk => by cases hk)
      have hC3 := HCa.out.below hok hb3
      have y2 := hC3.fc
      have y3 := hC3.fzF
      have hFlt : F < wq.heap.size + 1 := by omega
      have HI3 : Hid (HasI (w3.setCell ⟨F, 0, none⟩ (.slice xa (natI way).length xc)) (.slice xa (natI way).length xc) (natI way)) := (hr.setOther (p := ⟨F, 0, none⟩) hFlt _).hasI
      have HC4 := hideIt (hC3.find hok (.slice xa (natI way).length xc))
      clear hr hgw hb3 hC3 hFlt
      go_wp2
      go_ret
      exact .inr ⟨way, _, way, rfl, by rw [HCy.out]; rfl, HC4.out, HI3.out⟩
  | f + 1, way, fv, w, hf, h0, hlt, hc => by
    have h40 := (ckG_ok ok).1
    obtain ⟨v, hv, hrow⟩ := hc.wc
    have HC := hideIt hc
    have HI := hideIt hrow.hasI
    obtain ⟨a2, c2, rfl, hlc, hcells⟩ := hrow.hasI
    rw [natI_len] at hv hlc
    obtain ⟨rb, ro, rfl, r0⟩ := hcells 0 (by rw [natI_len]; exact h0)
    obtain ⟨rb', ro', er, r1⟩ := hcells (way.length - 1) (by rw [natI_len]; omega)
    injection er with er
    injection er with er1 er2
    subst er1 er2
    rw [natI_at h0, Nat.add_zero] at r0
    rw [natI_at (by omega)] at r1
    have hl1 := hlt _ (List.getElem_mem (show way.length - 1 < way.length by omega))
    have hl2 := hlt _ (List.getElem_mem h0)
    have HLt := hideIt hlt
    have x0 := hc.gb
    have x1 := hc.nb
    have HCy : Hid (cycW (gB R) R.length (f + 1) way = (List.range R.length).findSome? fun k => if cycT (gB R) way k then cycW (gB R) R.length f (way ++ [k]) else none) := rfl
    have HT : Hid (∀ k, cycT (gB R) way k = (decide (way[0] < k) && gB R way[way.length - 1] k && !memB way k)) := fun k => by
      unfold cycT
      rw [getLastD_at h0, headD_at h0]
    have HGr : Hid (∀ W, Below w0.heap.size w0 W → ∃ b off, a = some ⟨b, off, none⟩ ∧ ∃ gr go gc, W.cell? ⟨b, off + way[way.length - 1], none⟩ = some (.slice (some ⟨gr, go, none⟩) R.length gc) ∧ ∀ k, k < R.length → W.cell? ⟨gr, go + k, none⟩ = some (.bool (gB R way[way.length - 1] k))) := fun W hW => by
      obtain ⟨b, off, e, _, gr, go, gc, q0, _, _, hq⟩ := (hg.below hW).at ok hl1
      exact ⟨b, off, e, gr, go, gc, q0, hq⟩
    have HIh : Hid (∀ k fv' w', k < R.length → CyAt a R.length cap m w0 G N F w' (way ++ [k]) fv' → Calls Tryd.prog 49 #[.pointer (some ⟨F + 1, 0, none⟩), .pointer (some ⟨N, 0, none⟩), .pointer (some ⟨G, 0, none⟩), .pointer (some ⟨F, 0, none⟩), .pointer (some ⟨F + 1 + 1, 0, none⟩)] w' fun e w'' => CyTold a R.length cap m w0 G N F (gB R) f (way ++ [k]) fv' e w'') := fun k fv' w' hk hc' =>
      walk_any R ok a cap m w0 hg G N F hok hm f (way ++ [k]) fv' w' (by simp; omega) (by simp) (fun x hx => by
        rcases List.mem_append.1 hx with hx | hx
        · exact hlt x hx
        · rw [List.mem_singleton.1 hx]; exact hk) hc'
    have h0' : (0 : Int) < way.length := by omega
    have hne : ((way.length : Int) == (m : Int)) = false := by simp; omega
    have hwl40 : way.length < 40 := by omega
    generalize hlast : way[way.length - 1] = last at r1 hl1 HT HGr
    generalize hfst : way[0] = fst at r0 hl2 HT
    have hl1' : (last : Int) < R.length := by omega
    have hl2' : (fst : Int) < R.length := by omega
    clear hcells hc hrow hlt hlast hfst hg
    generalize gB R = g at HCy HT HGr HIh ⊢
    have HFst : Hid (∀ j, j < fst + 1 → (if cycT g way j then cycW g R.length f (way ++ [j]) else none) = none) := fun j hj => by
      have : ¬ fst < j := by omega
      rw [HT.out j]
      simp [this]
    unfold CyTold
    go_enter Tryd.func49, Tryd.ntmps49
    go_wp2
    clear x0 x1 r0 r1 hv HI hne
    go_loopw [7] (fun v wr => ∃ k : Nat, k ≤ R.length ∧ v = .int .i64 k ∧ (∀ j, j < k → (if cycT g way j then cycW g R.length f (way ++ [j]) else none) = none) ∧ fst < k ∧ CyAt a R.length cap m w0 G N F wr way fv) (fun v _ => R.length - (intOf v).toNat)
    case atStart => exact ⟨fst + 1, by omega, by go_num, HFst.out, by omega, HC.out⟩
    case round =>
      clear HC
      obtain ⟨k, hk, rfl, hno, hfk, hc⟩ := hrel
      have HNo := hideIt hno
      have HC := hideIt hc
      clear hno hc
      by_cases hkn : k < R.length
      · have hkn' : (k : Int) < R.length := by omega
        have hk40 : k < 40 := by omega
        have x0 := HC.out.gb
        obtain ⟨b, off, rfl, gr, go, gc, q0, hq⟩ := HGr.out wr HC.out.bel
        have q1 := hq k hkn
        have HTk : Hid (cycT g way k = (g last k && !memB way k)) := by
          show cycT g way k = _
          rw [HT.out k, show decide (fst < k) = true by simp [hfk]]; rfl
        have HNx : Hid ((if cycT g way k then cycW g R.length f (way ++ [k]) else none) = none → ∀ j, j < k + 1 → (if cycT g way j then cycW g R.length f (way ++ [j]) else none) = none) := fun h j hj => by
          by_cases e : j = k
          · subst e; exact h
          · exact HNo.out j (by omega)
        clear hq
        generalize g last k = gb at q1 HTk
        cases gb
        · have R1 := hideIt (HNx.out (by rw [HTk.out]; rfl))
          go_wp2
          go_roundw
          case rel => exact ⟨k + 1, by omega, by go_num, R1.out, by omega, HC.out⟩
          case measure => simp [intOf]; omega
        · obtain ⟨v, hv, hrow⟩ := HC.out.wc
          obtain ⟨va, vc, rfl⟩ := hrow.slice
          have HIx := hideIt (index_any (natI way) (by rw [natI_len]; omega) (k : Int) _ wr hrow.hasI)
          rw [natI_mem] at HIx
          rw [natI_len] at hv HIx
          obtain ⟨mb, hmb⟩ : ∃ mb, memB way k = mb := ⟨_, rfl⟩
          rw [hmb] at HIx HTk
          have HRow := hideIt hrow
          clear hmb hrow
          cases mb
          · rw [natI_len] at HRow
            have HRow2 : Hid (RowAt (wr.alloc (.cells #[.int .i64 (k : Int)] 3)) (F + 1 + 1 + 1) (.slice va way.length vc) (natI way)) := HRow.out.belowR (belA (Below.refl _ _) _)
            have hFs := HC.out.lt
            have HBx := hideIt HC.out.bx
            have HCk : Hid (cycT g way k = true) := HTk.out
            go_wp2_with fail
            refine HIx.out.mono ?_
            rintro e w1 ⟨r, rfl, hr, rfl⟩
            have hr' : decide (r < 0) = true := hr
            clear hr
            go_wp2_with (at_builtin; refine wpList_append_row rfl _ _ rfl (F + 1 + 1 + 1) _ (natI way) rfl HRow2.out w1.heap.size 1 (k : Int) rfl ?c1 ?c2 ?c3 ?_)
            case c1 => simp
            case c2 => rw [natI_len]; omega
            case c3 => simp; omega
            intro v' w3 ht
            obtain ⟨xa, xc, hv'⟩ := ht.row.slice
            rw [show (natI way ++ [(k : Int)]).length = way.length + 1 by simp [natI_len]] at hv'
            subst hv'
            have hb3 : Below w0.heap.size w0 w3 := ((HBx.out.bel).alloc (HBx.out.bel.size) (.cells #[.int .i64 (k : Int)] 3)).grown ht.grown (by have := HBx.out.bel.size; simp; omega) (fun j hj => by have := (HRow2.out.lt j hj).1; have := hok.g0; have := hok.gn; have := hok.nf; omega)
            have hkb : ∀ j, j < F + 1 + 1 + 1 → w3.heap[j]? = w1.heap[j]? := fun j hj => by
              rw [ht.grown.block j (by simp; omega) (fun e => by have := (HRow2.out.lt j e.symm).1; omega)]
              exact Below.heap_alloc _ _ _ (by omega)
            have HBx3 := hideIt (HBx.out.kept hkb hb3 hok)
            have HCn : Hid (CyAt (some ⟨b, off, none⟩) R.length cap m w0 G N F (w3.setCell ⟨F + 1, 0, none⟩ (.slice xa (way.length + 1) xc)) (way ++ [k]) fv) := HBx3.out.row hok (by rw [natI_app]; exact ht.row)
            obtain ⟨vo, hvo⟩ := HBx3.out.wc
            have zvo := HBx3.out.fzW
            have HCall := hideIt (HIh.out k fv _ hkn HCn.out)
            have kk := HCn.out.kc
            have kk0 := HBx3.out.kc
            have hFF : ¬ F + 1 = F + 1 + 1 := by omega
            clear ht hb3 hkb HRow HRow2 HIx hv q0 q1 x0
            go_wp2_with fail
            refine HCall.out.mono ?_
            clear HCall kk kk0 hvo zvo HCn HBx3 HBx
            rintro e w4 (⟨rfl, hno2, hc4⟩ | ⟨c, v4, way', rfl, hsome, hc4, hI4⟩)
            · obtain ⟨v5, hv5, hr5⟩ := hc4.wc
              obtain ⟨ya, yc, hv5'⟩ := hr5.slice
              rw [natI_len, List.length_append, List.length_singleton] at hv5'
              subst hv5'
              rw [natI_app] at hr5
              have hyc : way.length + 1 ≤ yc := by
                obtain ⟨a7, c7, e7, h7, _⟩ := hr5.hasI
                injection e7 with _ _ e8
                simp [natI_len] at h7
                omega
              have hr6 := hr5.short
              rw [natI_len] at hr6
              have HC6 := hideIt (hc4.bx.row hok hr6)
              have z5 := hc4.fzW
              have R1 := hideIt (HNx.out (by rw [HCk.out]; simpa using hno2))
              have hyc' : (way.length : Int) + 1 ≤ yc := by omega
              clear hno2 hc4 hr5 hr6
              go_wp2
              go_roundw
              case rel => exact ⟨k + 1, by omega, by go_num, R1.out, by omega, HC6.out⟩
              case measure => simp [intOf]; omega
            · have HS : Hid (cycW g R.length (f + 1) way = some c) := by
                show cycW g R.length (f + 1) way = some c
                rw [HCy.out]
                exact findSome_at hkn (by rw [HCk.out]; simpa using hsome) HNo.out
              have HC6 := hideIt hc4
              have HI6 := hideIt hI4
              clear hsome hc4 hI4
              go_wp2
              go_ret
              exact .inr ⟨c, v4, way', rfl, HS.out, HC6.out, HI6.out⟩
          · have R1 := hideIt (HNx.out (by rw [HTk.out]; rfl))
            go_wp2_with fail
            refine HIx.out.mono ?_
            rintro e w1 ⟨r, rfl, hr, rfl⟩
            have hr' : decide (r < 0) = false := hr
            clear hr
            go_wp2
            go_roundw
            case rel => exact ⟨k + 1, by omega, by go_num, R1.out, by omega, HC.out⟩
            case measure => simp [intOf]; omega
      · have HN : Hid (cycW g R.length (f + 1) way = none) := by
          show cycW g R.length (f + 1) way = none
          rw [HCy.out]
          exact findSome_no fun j hj => HNo.out j (by omega)
        obtain rfl : k = R.length := by omega
        have x0 := HC.out.gb
        go_wp2
        go_ret
        exact .inl ⟨rfl, HN.out, HC.out⟩
end Go.Proofs.YtibdchahallbjabDoor

namespace Go.Proofs.YtibdchahallbjabDoor
open Go.RowKit

section
variable {a : Option Addr} {n cap m : Nat} {w0 w w' : World} {G N F : Nat} {way : List Nat} {fv : Value}
theorem CyBx.put (h : CyBx a n cap m w0 G N F w fv) (ok : CyOk w0 G N F) (v : Value) : CyBx a n cap m w0 G N F (w.setCell ⟨F + 1, 0, none⟩ v) fv ∧ (w.setCell ⟨F + 1, 0, none⟩ v).cell? ⟨F + 1, 0, none⟩ = some v := by
  have h0 := ok.g0
  have h1 := ok.gn
  have h2 := ok.nf
  obtain ⟨c1, t1, e1⟩ := h.fb
  obtain ⟨c2, t2, e2⟩ := h.wb
  obtain ⟨c3, e3, _⟩ := heap_setCell e2 0 v
  obtain ⟨v0, hv0⟩ := h.wc
  have ho : ∀ b, b ≠ F + 1 → (w.setCell ⟨F + 1, 0, none⟩ v).cell? ⟨b, 0, none⟩ = w.cell? ⟨b, 0, none⟩ := fun b hb => World.cell?_setCell_other _ _ _ _ (blkNe (Ne.symm hb))
  have hs := World.cell?_setCell_same w ⟨F + 1, 0, none⟩ v hv0
  exact ⟨⟨h.bel.setCell (p := ⟨F + 1, 0, none⟩) (by show w0.heap.size ≤ F + 1; omega) v, (ho G (by omega)).trans h.gb, (ho N (by omega)).trans h.nb, ⟨c1, t1, (Below.heap_setCell w ⟨F + 1, 0, none⟩ v F (by show F ≠ F + 1; omega)).trans e1⟩, (ho F (by omega)).trans h.fc, ⟨c3, t2, e3⟩, ⟨v, hs⟩, (ho (F + 1 + 1) (by omega)).trans h.kc⟩, hs⟩
theorem CyBx.at (h : CyBx a n cap m w0 G N F w fv) {v : Value} (hv : w.cell? ⟨F + 1, 0, none⟩ = some v) (hr : RowAt w (F + 1 + 1 + 1) v (natI way)) : CyAt a n cap m w0 G N F w way fv := ⟨h.bel, h.gb, h.nb, h.fb, h.fc, h.wb, ⟨v, hv, hr⟩, h.kc⟩
end

/-- The number that a pointer points at. -/
def ptrN (w : World) (v : Value) : Nat := match v with
  | .pointer (some a) => match w.cell? a with
    | some (.int _ x) => x.toNat
    | _ => 0
  | _ => 0
theorem ptrN_at {w : World} {N : Nat} {m : Nat} (h : w.cell? ⟨N, 0, none⟩ = some (.int .i64 (m : Int))) : ptrN w (.pointer (some ⟨N, 0, none⟩)) = m := by
  simp [ptrN, h]
/-- What the document's Cycle tells. -/
def CdTold (R : List (List Bool)) (w : World) (e : Ending) (w' : World) : Prop :=
  ∃ v, e = .returned v ∧ ((cycD (gB R) R.length = none ∧ v = .slice none 0 0) ∨ ∃ c, cycD (gB R) R.length = some c ∧ HasI w' v (natI c)) ∧ Below w.heap.size w w'

set_option maxRecDepth 100000 in
set_option maxHeartbeats 4000000 in
theorem rCycle_any (R : List (List Bool)) (ok : ckG R = 0) (a : Option Addr) (cap : Nat) (w : World) (hg : GrQ w a R) :
    Calls Tryd.prog 26 #[.slice a R.length cap] w fun e w' => CdTold R w e w' := by
  have h40 := (ckG_ok ok).1
  have HD : Hid (cycD (gB R) R.length = (List.range R.length).findSome? fun m => cycL (gB R) R.length (m + 1)) := rfl
  have HLd : Hid (∀ m, cycL (gB R) R.length (m + 1) = (List.range R.length).findSome? fun i => cycW (gB R) R.length m [i]) := fun m => rfl
  have HWk : Hid (∀ (m : Nat), m < R.length → ∀ G N F, CyOk w G N F → ∀ (i : Nat) (fv : Value) (w' : World), i < R.length → CyAt a R.length cap (m + 1) w G N F w' [i] fv → Calls Tryd.prog 49 #[.pointer (some ⟨F + 1, 0, none⟩), .pointer (some ⟨N, 0, none⟩), .pointer (some ⟨G, 0, none⟩), .pointer (some ⟨F, 0, none⟩), .pointer (some ⟨F + 1 + 1, 0, none⟩)] w' fun e w'' => CyTold a R.length cap (m + 1) w G N F (gB R) m [i] fv e w'') := fun m hm G N F hok i fv w' hi hc =>
    walk_any R ok a cap (m + 1) w hg G N F hok (by omega) m [i] fv w' (by simp; omega) (by simp) (fun x hx => by rw [List.mem_singleton.1 hx]; exact hi) hc
  have HB0 : Hid (Below w.heap.size w ((w.alloc (.cells #[.slice a R.length cap] 54)).alloc (.cells #[.int .i64 1] 3))) := belA (belA (Below.refl _ _) _) _
  have x0 : ((w.alloc (.cells #[.slice a R.length cap] 54)).alloc (.cells #[.int .i64 1] 3)).cell? ⟨w.heap.size, 0, none⟩ = some (.slice a R.length cap) := by
    rw [World.cell?_alloc_lt _ _ ⟨w.heap.size, 0, none⟩ (by simp)]; simp
  have x1 : ((w.alloc (.cells #[.slice a R.length cap] 54)).alloc (.cells #[.int .i64 1] 3)).cell? ⟨w.heap.size + 1, 0, none⟩ = some (.int .i64 ((0 + 1 : Nat) : Int)) := by
    have := heap_alloc_new (w.alloc (.cells #[.slice a R.length cap] 54)) (.cells #[.int .i64 1] 3)
    rw [World.size_alloc] at this
    rw [cell_of_row _ _ 0 _ 3 _ this]; rfl
  have X0 := hideIt x0
  have X1 := hideIt x1
  clear hg ok x0 x1
  unfold CdTold
  generalize gB R = g at HD HLd HWk ⊢
  go_enter Tryd.func26, Tryd.ntmps26
  go_wp2
  generalize (w.alloc _).alloc _ = W at HB0 X0 X1 ⊢
  go_loopw [3] (fun p wr => ∃ (m N : Nat), m ≤ R.length ∧ p = .pointer (some ⟨N, 0, none⟩) ∧ w.heap.size < N ∧ wr.cell? ⟨N, 0, none⟩ = some (.int .i64 ((m + 1 : Nat) : Int)) ∧ wr.cell? ⟨w.heap.size, 0, none⟩ = some (.slice a R.length cap) ∧ (∀ j, j < m → cycL g R.length (j + 1) = none) ∧ Below w.heap.size w wr) (fun p wr => R.length + 1 - ptrN wr p)
  case atStart => exact ⟨0, w.heap.size + 1, Nat.zero_le _, rfl, by omega, X1.out, X0.out, fun j hj => absurd hj (by omega), HB0.out⟩
  case round =>
    clear HB0 X0 X1
    obtain ⟨m, N, hm, rfl, hN, x1, x0, hno, hb⟩ := hrel
    have HNo := hideIt hno
    have HB := hideIt hb
    have HX1 := hideIt x1
    have HX0 := hideIt x0
    have HPt := hideIt (ptrN_at x1)
    clear hno hb
    by_cases hmn : m < R.length
    · have hmn' : ((m + 1 : Nat) : Int) ≤ R.length := by omega
      go_upto_region 8 with fail
      have hNl : N < wr.heap.size := World.block_lt_of_cell? wr _ x1
      have hGl : w.heap.size < wr.heap.size := by omega
      have HBx : Hid (CyBx a R.length cap (m + 1) w w.heap.size N wr.heap.size (((wr.alloc (.cells #[.slice none 0 0] 29)).alloc (.cells #[.slice none 0 0] 29)).alloc (.cells #[.func (Fn.func 49) #[] #[.pointer (some ⟨wr.heap.size + 1, 0, none⟩), .pointer (some ⟨N, 0, none⟩), .pointer (some ⟨w.heap.size, 0, none⟩), .pointer (some ⟨wr.heap.size, 0, none⟩), .pointer (some ⟨wr.heap.size + 1 + 1, 0, none⟩)]] 51)) (.slice none 0 0)) := by
        obtain ⟨W1, hW1⟩ : ∃ W1, W1 = wr.alloc (.cells #[.slice none 0 0] 29) := ⟨_, rfl⟩
        obtain ⟨W2, hW2⟩ : ∃ W2, W2 = W1.alloc (.cells #[.slice none 0 0] 29) := ⟨_, rfl⟩
        have s1 : W1.heap.size = wr.heap.size + 1 := by rw [hW1]; simp
        have s2 : W2.heap.size = wr.heap.size + 1 + 1 := by rw [hW2, World.size_alloc, s1]
        have b1 : Below wr.heap.size wr W1 := by rw [hW1]; exact belA (Below.refl _ _) _
        have b2 : Below W1.heap.size W1 W2 := by rw [hW2]; exact belA (Below.refl _ _) _
        have f1 : W1.heap[wr.heap.size]? = some (.cells #[.slice none 0 0] 29 (0, 0)) := by rw [hW1]; exact heap_alloc_new wr _
        have f2 : W2.heap[wr.heap.size + 1]? = some (.cells #[.slice none 0 0] 29 (0, 0)) := by rw [hW2, ← s1]; exact heap_alloc_new W1 _
        rw [← hW1, ← hW2]
        have b3 : Below W2.heap.size W2 (W2.alloc (.cells #[.func (Fn.func 49) #[] #[.pointer (some ⟨wr.heap.size + 1, 0, none⟩), .pointer (some ⟨N, 0, none⟩), .pointer (some ⟨w.heap.size, 0, none⟩), .pointer (some ⟨wr.heap.size, 0, none⟩), .pointer (some ⟨wr.heap.size + 1 + 1, 0, none⟩)]] 51)) := belA (Below.refl _ _) _
        have f3 := heap_alloc_new W2 (.cells #[.func (Fn.func 49) #[] #[.pointer (some ⟨wr.heap.size + 1, 0, none⟩), .pointer (some ⟨N, 0, none⟩), .pointer (some ⟨w.heap.size, 0, none⟩), .pointer (some ⟨wr.heap.size, 0, none⟩), .pointer (some ⟨wr.heap.size + 1 + 1, 0, none⟩)]] 51)
        rw [s2] at f3
        have g1 := (b3.block wr.heap.size (by omega)).trans ((b2.block wr.heap.size (by omega)).trans f1)
        have g2 := (b3.block (wr.heap.size + 1) (by omega)).trans f2
        have hbb := belJ (belJ b1 b2) b3
        refine ⟨belJ HB.out hbb, (hbb.cell (p := ⟨w.heap.size, 0, none⟩) hGl).trans HX0.out, (hbb.cell (p := ⟨N, 0, none⟩) hNl).trans HX1.out, ⟨_, _, g1⟩, ?_, ⟨_, _, g2⟩, ⟨.slice none 0 0, ?_⟩, ?_⟩
        · rw [cell_of_row _ _ 0 _ 29 _ g1]; rfl
        · rw [cell_of_row _ _ 0 _ 29 _ g2]; rfl
        · rw [cell_of_row _ _ 0 _ 51 _ f3]; rfl
      have HOk : Hid (CyOk w w.heap.size N wr.heap.size) := ⟨Nat.le_refl _, hN, hNl⟩
      clear HB HX1 HX0 x0 x1
      generalize ((wr.alloc _).alloc _).alloc _ = W4 at HBx ⊢
      generalize wr.heap.size = F at HBx HOk hNl hGl ⊢
      have x0 := HBx.out.gb
      rw [show decide ((m : Int) + 1 ≤ (R.length : Int)) = true from decide_eq_true (by omega)]
      go_wp2
      go_loopw [17] (fun v wz => ∃ i : Nat, i ≤ R.length ∧ v = .int .i64 i ∧ (∀ j, j < i → cycW g R.length m [j] = none) ∧ CyBx a R.length cap (m + 1) w w.heap.size N F wz (.slice none 0 0)) (fun v _ => R.length - (intOf v).toNat)
      case atStart => exact ⟨0, Nat.zero_le _, rfl, fun j hj => absurd hj (by omega), HBx.out⟩
      case round =>
        clear HBx x0
        obtain ⟨i, hi, rfl, hno2, hbx⟩ := hrel
        have HNo2 := hideIt hno2
        have HBx := hideIt hbx
        clear hno2 hbx
        by_cases hin : i < R.length
        · have hin' : (i : Int) < R.length := by omega
          obtain ⟨vo, hvo⟩ := HBx.out.wc
          have zvo := HBx.out.fzW
          have hFs : F + 1 + 1 < wr.heap.size := World.block_lt_of_cell? wr _ HBx.out.kc
          have hF1 : F + 1 < wr.heap.size := by omega
          have hFn : ¬ F + 1 = wr.heap.size := by omega
          have hFn' : ¬ wr.heap.size = F + 1 := by omega
          have HC1 : Hid (CyAt a R.length cap (m + 1) w w.heap.size N F ((wr.setCell ⟨F + 1, 0, none⟩ (.slice (some ⟨wr.heap.size, 0, none⟩) 1 1)).alloc (.cells #[.int .i64 (i : Int)] 3)) [i] (.slice none 0 0)) := by
            obtain ⟨hp, hcell⟩ := HBx.out.put HOk.out (.slice (some ⟨wr.heap.size, 0, none⟩) 1 1)
            have hss : (wr.setCell ⟨F + 1, 0, none⟩ (.slice (some ⟨wr.heap.size, 0, none⟩) 1 1)).heap.size = wr.heap.size := by simp
            have hb1 := belA (Below.refl _ (wr.setCell ⟨F + 1, 0, none⟩ (.slice (some ⟨wr.heap.size, 0, none⟩) 1 1))) (.cells #[.int .i64 (i : Int)] 3)
            have hbx1 := hp.kept (fun b hb => hb1.block b (by rw [hss]; omega)) (belJ hp.bel hb1) HOk.out
            have hnew := heap_alloc_new (wr.setCell ⟨F + 1, 0, none⟩ (.slice (some ⟨wr.heap.size, 0, none⟩) 1 1)) (.cells #[.int .i64 (i : Int)] 3)
            rw [hss] at hnew
            refine hbx1.at ((hb1.cell (p := ⟨F + 1, 0, none⟩) (by rw [hss]; exact hF1)).trans hcell) (.inr ⟨wr.heap.size, 0, 1, _, rfl, by omega, hnew, by simp [natI], by simp, by decide, fun j hj => ?_⟩)
            obtain rfl : j = 0 := by simp [natI] at hj; omega
            rw [cell_of_row _ _ _ _ 3 _ hnew]
            simp [natI]
          have HCall := hideIt (HWk.out m hmn w.heap.size N F HOk.out i _ _ hin HC1.out)
          have kk := HC1.out.kc
          have hFF : ¬ F + 1 = F + 1 + 1 := by omega
          have hFk : ¬ F + 1 + 1 = wr.heap.size := by omega
          have hFk2 : ¬ wr.heap.size = F + 1 + 1 := by omega
          have kkw := HBx.out.kc
          go_wp2_with fail
          refine HCall.out.mono ?_
          clear HCall kk kkw hvo zvo HC1
          rintro e w4 (⟨rfl, hnone, hc4⟩ | ⟨c, v4, way', rfl, hsome, hc4, hI4⟩)
          · have R1 : Hid (∀ j, j < i + 1 → cycW g R.length m [j] = none) := fun j hj => by
              by_cases e : j = i
              · subst e; exact hnone
              · exact HNo2.out j (by omega)
            have R2 := hideIt hc4.bx
            clear hnone hc4
            go_wp2
            go_roundw
            case rel => exact ⟨i + 1, by omega, by go_num, R1.out, R2.out⟩
            case measure => simp [intOf]; omega
          · have HS : Hid (cycD g R.length = some c) := by
              show cycD g R.length = some c
              rw [HD.out]
              refine findSome_at hmn ?_ HNo.out
              rw [HLd.out]
              exact findSome_at hin hsome HNo2.out
            have y0 := hc4.fc
            have HB4 := hideIt hc4.bel
            have HI4 := hideIt hI4
            obtain ⟨a7, c7, rfl, _⟩ := hI4
            clear hsome hc4
            go_wp2
            go_ret
            exact ⟨_, rfl, .inr ⟨c, HS.out, HI4.out⟩, HB4.out⟩
        · obtain rfl : i = R.length := by omega
          have R1 : Hid (∀ j, j < m + 1 → cycL g R.length (j + 1) = none) := fun j hj => by
            by_cases e : j = m
            · subst e
              rw [HLd.out]
              exact findSome_no HNo2.out
            · exact HNo.out j (by omega)
          have x1 := HBx.out.nb
          have x0 := HBx.out.gb
          have hgl2 : w.heap.size < wr.heap.size := World.block_lt_of_cell? wr _ x0
          have e2 : ((m : Int) + 1 + 1) = ((m + 1 + 1 : Nat) : Int) := by omega
          have HX2 : Hid ((wr.alloc (.cells #[.int .i64 ((m : Int) + 1 + 1)] 3)).cell? ⟨wr.heap.size, 0, none⟩ = some (.int .i64 ((m + 1 + 1 : Nat) : Int))) := by
            show _ = _
            rw [← e2]; simp
          have HX3 : Hid ((wr.alloc (.cells #[.int .i64 ((m : Int) + 1 + 1)] 3)).cell? ⟨w.heap.size, 0, none⟩ = some (.slice a R.length cap)) := (World.cell?_alloc_lt _ _ ⟨w.heap.size, 0, none⟩ hgl2).trans x0
          have HP2 := hideIt (ptrN_at HX2.out)
          have HB5 : Hid (Below w.heap.size w (wr.alloc (.cells #[.int .i64 ((m : Int) + 1 + 1)] 3))) := belA HBx.out.bel _
          clear e2
          go_wp2
          go_roundw
          case rel => exact ⟨m + 1, wr.heap.size, by omega, rfl, hgl2, HX2.out, HX3.out, R1.out, HB5.out⟩
          case measure =>
            have h1 := HP2.out
            have h2 := HPt.out
            rw [h1, h2]
            omega
    · obtain rfl : m = R.length := by omega
      have HN : Hid (cycD g R.length = none) := by
        show cycD g R.length = none
        rw [HD.out]
        exact findSome_no fun j hj => HNo.out j hj
      have hnn : ¬ ((R.length + 1 : Nat) : Int) ≤ R.length := by omega
      go_wp2
      go_ret
      exact ⟨_, rfl, .inl ⟨HN.out, rfl⟩, HB.out⟩
end Go.Proofs.YtibdchahallbjabDoor
