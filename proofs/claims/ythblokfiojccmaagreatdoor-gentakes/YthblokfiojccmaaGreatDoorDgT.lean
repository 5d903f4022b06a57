/-
  The document's generator in memory: its blocks are its own.
-/
import Derived.Test.YthblokfiojccmaaGreatDoorNxD
import Derived.Test.YthblokfiojccmaaGreatDoorGpR
import Derived.Test.YthblokfiojccmaaGreatDoorDnP
namespace Go.Proofs.YthblokfiojccmaaGreatDoor.Gn
open Go.RowKit

/-- Parts behind a name: kids in a row of their own. -/
def KidsAt (P : Value → Gt → List Nat → Prop) (w : World) (base : Nat) (nm : ByteArray) (v : Value) (l : List Gt) (bs : List Nat) : Prop :=
  ∃ b g cap us cs, v = .pointer (some ⟨b, 0, none⟩) ∧ bs = b :: g :: cs ∧ base ≤ b ∧ b ≠ g ∧ b ∉ cs ∧ g ∉ cs ∧ w.cell? ⟨b, 0, none⟩ = some (.string nm) ∧ w.cell? ⟨b, 4, none⟩ = some (.slice (some ⟨g, 0, none⟩) l.length cap) ∧ w.frozen? ⟨b, 4, none⟩ = false ∧
    w.ownsRow base 23 1 (.slice (some ⟨g, 0, none⟩) l.length cap) l.length us ∧ l.length ≤ 2000 ∧ Parts P us l cs

/-- The document's generator: bs are its blocks. -/
def DgAt : Nat → World → Nat → Value → Gt → List Nat → Prop
  | 0, _, _, _, _, _ => False
  | _ + 1, w, base, v, .rd k, bs => ∃ b, v = .pointer (some ⟨b, 0, none⟩) ∧ bs = [b] ∧ base ≤ b ∧ w.cell? ⟨b, 0, none⟩ = some (.string ⟨#[114, 101, 97, 100]⟩) ∧ w.cell? ⟨b, 1, none⟩ = some (.int .i64 k)
  | _ + 1, w, base, v, .wr k lo hi, bs => ∃ b, v = .pointer (some ⟨b, 0, none⟩) ∧ bs = [b] ∧ base ≤ b ∧ w.cell? ⟨b, 0, none⟩ = some (.string ⟨#[119, 114, 105, 116, 101]⟩) ∧ w.cell? ⟨b, 1, none⟩ = some (.int .i64 k) ∧ w.cell? ⟨b, 2, none⟩ = some (.int .i64 lo) ∧ w.cell? ⟨b, 3, none⟩ = some (.int .i64 hi) ∧ -1000000 ≤ lo ∧ lo ≤ hi ∧ hi ≤ 1000000
  | n + 1, w, base, v, .lim g left, bs => ∃ b r u cap cs, ∃ used : Nat, v = .pointer (some ⟨b, 0, none⟩) ∧ bs = b :: r :: cs ∧ base ≤ b ∧ base ≤ r ∧ b ≠ r ∧ b ∉ cs ∧ r ∉ cs ∧ w.cell? ⟨b, 0, none⟩ = some (.string ⟨#[108, 105, 109, 105, 116]⟩) ∧ w.cell? ⟨b, 1, none⟩ = some (.int .i64 ((used + left : Nat) : Int)) ∧ w.cell? ⟨b, 4, none⟩ = some (.slice (some ⟨r, 0, none⟩) 1 cap) ∧ w.cell? ⟨b, 5, none⟩ = some (.int .i64 (used : Nat)) ∧ w.frozen? ⟨b, 5, none⟩ = false ∧ used + left ≤ 1000 ∧ w.cell? ⟨r, 0, none⟩ = some u ∧ DgAt n w base u g cs
  | n + 1, w, base, v, .mix l, bs => KidsAt (DgAt n w base) w base ⟨#[109, 105, 120]⟩ v l bs
  | n + 1, w, base, v, .thn l, bs => KidsAt (DgAt n w base) w base ⟨#[116, 104, 101, 110]⟩ v l bs

theorem KidsAt.low {P Q : Value → Gt → List Nat → Prop} {w w' : World} {base : Nat} {nm : ByteArray} {v : Value} {l : List Gt} {bs : List Nat} (h : KidsAt P w base nm v l bs) (hb : ∀ b ∈ bs, w'.heap[b]? = w.heap[b]?) (hP : ∀ v g ds, (∀ b ∈ ds, b ∈ bs) → P v g ds → Q v g ds) : KidsAt Q w' base nm v l bs := by
  obtain ⟨b, g, cap, us, cs, h1, rfl, h2, h3, h4, h5, h6, h7, h8, h9, h10, h11⟩ := h
  have e := hb b (by simp)
  refine ⟨b, g, cap, us, cs, h1, rfl, h2, h3, h4, h5, (World.cell?_of_block (a := ⟨b, 0, none⟩) e).trans h6, (World.cell?_of_block (a := ⟨b, 4, none⟩) e).trans h7, (World.frozen?_of_block (a := ⟨b, 4, none⟩) e).trans h8, ownsRow_blk h9 (fun x hx => ?_), h10, h11.mono fun v g ds has hp => hP v g ds (fun c hc => by simp [has c hc]) hp⟩
  have hx' : some g = some x := hx
  cases hx'
  exact hb g (by simp)

/-- It hangs on its own blocks alone. -/
theorem DgAt.low : ∀ {n : Nat} {w w' : World} {base : Nat} {v : Value} {g : Gt} {bs : List Nat}, DgAt n w base v g bs → (∀ b ∈ bs, w'.heap[b]? = w.heap[b]?) → DgAt n w' base v g bs
  | 0, _, _, _, _, _, _, h, _ => h.elim
  | _ + 1, _, _, _, _, .rd _, _, h, hb => by
    obtain ⟨b, h1, rfl, h2, h3, h4⟩ := h
    have e := hb b (by simp)
    exact ⟨b, h1, rfl, h2, (World.cell?_of_block (a := ⟨b, 0, none⟩) e).trans h3, (World.cell?_of_block (a := ⟨b, 1, none⟩) e).trans h4⟩
  | _ + 1, _, _, _, _, .wr _ _ _, _, h, hb => by
    obtain ⟨b, h1, rfl, h2, h3, h4, h5, h6, h7⟩ := h
    have e := hb b (by simp)
    exact ⟨b, h1, rfl, h2, (World.cell?_of_block (a := ⟨b, 0, none⟩) e).trans h3, (World.cell?_of_block (a := ⟨b, 1, none⟩) e).trans h4, (World.cell?_of_block (a := ⟨b, 2, none⟩) e).trans h5, (World.cell?_of_block (a := ⟨b, 3, none⟩) e).trans h6, h7⟩
  | n + 1, w, w', base, v, .lim g left, bs, h, hb => by
    obtain ⟨b, r, u, cap, cs, used, h1, rfl, h2, h3, h4, h5, h6, h7, h8, h9, h10, h11, h12, h13, h14⟩ := h
    have e := hb b (by simp)
    have e2 := hb r (by simp)
    exact ⟨b, r, u, cap, cs, used, h1, rfl, h2, h3, h4, h5, h6, (World.cell?_of_block (a := ⟨b, 0, none⟩) e).trans h7, (World.cell?_of_block (a := ⟨b, 1, none⟩) e).trans h8, (World.cell?_of_block (a := ⟨b, 4, none⟩) e).trans h9, (World.cell?_of_block (a := ⟨b, 5, none⟩) e).trans h10, (World.frozen?_of_block (a := ⟨b, 5, none⟩) e).trans h11, h12, (World.cell?_of_block (a := ⟨r, 0, none⟩) e2).trans h13, h14.low (fun c hc => hb c (by simp [hc]))⟩
  | n + 1, w, w', base, v, .mix l, bs, h, hb => KidsAt.low h hb fun _ _ _ hd hp => hp.low fun b hbd => hb b (hd b hbd)
  | n + 1, w, w', base, v, .thn l, bs, h, hb => KidsAt.low h hb fun _ _ _ hd hp => hp.low fun b hbd => hb b (hd b hbd)

theorem KidsAt.in_ {P : Value → Gt → List Nat → Prop} {w : World} {base : Nat} {nm : ByteArray} {v : Value} {l : List Gt} {bs : List Nat} (h : KidsAt P w base nm v l bs) (hP : ∀ v g ds, P v g ds → ∀ b ∈ ds, base ≤ b ∧ b < w.heap.size) : ∀ b ∈ bs, base ≤ b ∧ b < w.heap.size := by
  obtain ⟨b, g, cap, us, cs, h1, rfl, h2, h3, h4, h5, h6, h7, h8, h9, h10, h11⟩ := h
  intro c hc
  rcases List.mem_cons.1 hc with rfl | hc
  · exact ⟨h2, World.block_lt_of_cell? w _ h6⟩
  rcases List.mem_cons.1 hc with rfl | hc
  · rcases h9.2 with ⟨e, _⟩ | ⟨g', cap', cur, e, e1, e2, _⟩
    · cases e
    · cases e
      exact ⟨e1, (Array.getElem?_eq_some_iff.1 e2).1⟩
  · exact h11.all (fun v g bs hp => hP v g bs hp) c hc
theorem DgAt.in_ : ∀ {n : Nat} {w : World} {base : Nat} {v : Value} {g : Gt} {bs : List Nat}, DgAt n w base v g bs → ∀ b ∈ bs, base ≤ b ∧ b < w.heap.size
  | 0, _, _, _, _, _, h => h.elim
  | _ + 1, w, _, _, .rd _, _, h => by
    obtain ⟨b, h1, rfl, h2, h3, h4⟩ := h
    intro c hc
    simp at hc; subst hc
    exact ⟨h2, World.block_lt_of_cell? w _ h3⟩
  | _ + 1, w, _, _, .wr _ _ _, _, h => by
    obtain ⟨b, h1, rfl, h2, h3, h4⟩ := h
    intro c hc
    simp at hc; subst hc
    exact ⟨h2, World.block_lt_of_cell? w _ h3⟩
  | n + 1, w, base, v, .lim g left, bs, h => by
    obtain ⟨b, r, u, cap, cs, used, h1, rfl, h2, h3, h4, h5, h6, h7, h8, h9, h10, h11, h12, h13, h14⟩ := h
    intro c hc
    rcases List.mem_cons.1 hc with rfl | hc
    · exact ⟨h2, World.block_lt_of_cell? w _ h7⟩
    rcases List.mem_cons.1 hc with rfl | hc
    · exact ⟨h3, World.block_lt_of_cell? w _ h13⟩
    · exact h14.in_ c hc
  | n + 1, w, base, v, .mix l, bs, h => KidsAt.in_ h fun _ _ _ hp => hp.in_
  | n + 1, w, base, v, .thn l, bs, h => KidsAt.in_ h fun _ _ _ hp => hp.in_
theorem DgAt.fr {n : Nat} {w w' : World} {base : Nat} {v : Value} {g : Gt} {bs X : List Nat} (h : DgAt n w base v g bs) (hg : Fr X w w') (hX : ∀ b ∈ bs, b ∉ X) : DgAt n w' base v g bs :=
  h.low (fun b hb => hg.block b (h.in_ b hb).2 (hX b hb))
theorem DgAt.ptr : ∀ {n : Nat} {w : World} {base : Nat} {v : Value} {g : Gt} {bs : List Nat}, DgAt n w base v g bs → ∃ b, v = .pointer (some ⟨b, 0, none⟩) ∧ b ∈ bs
  | 0, _, _, _, _, _, h => h.elim
  | _ + 1, _, _, _, .rd _, _, h => by obtain ⟨b, h1, rfl, _⟩ := h; exact ⟨b, h1, by simp⟩
  | _ + 1, _, _, _, .wr _ _ _, _, h => by obtain ⟨b, h1, rfl, _⟩ := h; exact ⟨b, h1, by simp⟩
  | _ + 1, _, _, _, .lim _ _, _, h => by obtain ⟨b, r, u, cap, cs, used, h1, rfl, _⟩ := h; exact ⟨b, h1, by simp⟩
  | _ + 1, _, _, _, .mix _, _, h => by obtain ⟨b, g, cap, us, cs, h1, rfl, _⟩ := h; exact ⟨b, h1, by simp⟩
  | _ + 1, _, _, _, .thn _, _, h => by obtain ⟨b, g, cap, us, cs, h1, rfl, _⟩ := h; exact ⟨b, h1, by simp⟩

/-- What the document's Next leaves. -/
structure DnTold (n base B : Nat) (t : Tp) (w : World) (v : Value) (g : Gt) (bs : List Nat) (e : Ending) (w' : World) : Prop where
  ret : e = .returned (clV (nextF n g t).c)
  tp : TpAt w' base B 0 (nextF n g t).t
  gen : ∃ bs', DgAt n w' base v (nextF n g t).g bs' ∧ ∀ b ∈ bs', b ∈ bs ∨ w.heap.size ≤ b
  fr : Fr (B :: bs) w w'

theorem sizeDl : (Tryz.prog.info? 47).map (·.size) = some 3 := by kernel_rfl
theorem loadDl {w : World} {g : Nat} {v u x : Value} (h : w.cell? ⟨g, 0, none⟩ = some v) (h' : w.cell? ⟨g, 1, none⟩ = some u) (h'' : w.cell? ⟨g, 2, none⟩ = some x) : (loadVar 47 ⟨g, 0, none⟩).run Tryz.prog w = .ok (.agg #[v, u, x]) w :=
  run_loadVar_mid w g 0 47 [v, u, x] _ (fun j y hy => by
    match j with
    | 0 => simp at hy; subst hy; exact h
    | 1 => simp at hy; subst hy; exact h'
    | 2 => simp at hy; subst hy; exact h''
    | j + 3 => simp at hy) Tryz.underlying47 rfl sizeDl
theorem cell_set3 {w : World} {G : Nat} {x y z a b c : Value} (h0 : w.cell? ⟨G, 0, none⟩ = some x) (h1 : w.cell? ⟨G, 1, none⟩ = some y) (h2 : w.cell? ⟨G, 2, none⟩ = some z) :
    (set3 w G a b c).cell? ⟨G, 0, none⟩ = some a ∧ (set3 w G a b c).cell? ⟨G, 1, none⟩ = some b ∧ (set3 w G a b c).cell? ⟨G, 2, none⟩ = some c := by
  unfold set3
  refine ⟨?_, ?_, ?_⟩
  · rw [World.cell?_setCell_other _ _ _ _ (offN (by omega)), World.cell?_setCell_other _ _ _ _ (offN (by omega))]
    exact World.cell?_setCell_same' _ _ _ (by rw [h0]; rfl)
  · rw [World.cell?_setCell_other _ _ _ _ (offN (by omega))]
    refine World.cell?_setCell_same' _ _ _ ?_
    rw [World.cell?_setCell_other _ _ _ _ (offN (by omega)), h1]; rfl
  · refine World.cell?_setCell_same' _ _ _ ?_
    rw [World.cell?_setCell_other _ _ _ _ (offN (by omega)), World.cell?_setCell_other _ _ _ _ (offN (by omega)), h2]; rfl
theorem load_set3D {w : World} {G : Nat} {x y z a b c : Value} (h0 : w.cell? ⟨G, 0, none⟩ = some x) (h1 : w.cell? ⟨G, 1, none⟩ = some y) (h2 : w.cell? ⟨G, 2, none⟩ = some z) : (loadVar 47 ⟨G, 0, none⟩).run Tryz.prog (set3 w G a b c) = .ok (.agg #[a, b, c]) (set3 w G a b c) := by
  obtain ⟨k0, k1, k2⟩ := cell_set3 (a := a) (b := b) (c := c) h0 h1 h2
  exact loadDl k0 k1 k2
/-- The end: the call is laid into the result's own block. -/
theorem dtold_set3 {n base B G : Nat} {t0 : Tp} {w W : World} {v : Value} {g0 : Gt} {bs0 bs : List Nat} {r : Gv} {q : Bool} {k x : Int} {ok : Bool} (hnx : nextF n g0 t0 = r) (hcl : clA r.c = .agg #[.bool q, .int .i64 k, .int .i64 x]) (hok : r.c.isSome = ok) (hfr : Fr (B :: bs0) w W)
    (htp : TpAt W base B 0 r.t) (hgen : DgAt n W base v r.g bs) (hsub : ∀ x ∈ bs, x ∈ bs0 ∨ w.heap.size ≤ x) (hG : G ∉ bs) (hGw : w.heap.size ≤ G) (hB : B < w.heap.size) :
    DnTold n base B t0 w v g0 bs0 (.returned (.tuple #[.agg #[.bool q, .int .i64 k, .int .i64 x], .bool ok])) (set3 W G (.bool q) (.int .i64 k) (.int .i64 x)) := by
  have hlo := htp.lo
  have hF3 := fr_set3' W G (.bool q) (.int .i64 k) (.int .i64 x)
  refine ⟨?_, ?_, ?_, fr_set3 hfr hGw _ _ _⟩
  · rw [hnx]; unfold clV; rw [hcl, hok]
  · rw [hnx]; exact htp.fr hF3 (by simp; omega) (by simp; omega)
  · rw [hnx]; exact ⟨bs, hgen.fr hF3 (fun c hc e => hG (by simp at e; exact e ▸ hc)), hsub⟩
end Go.Proofs.YthblokfiojccmaaGreatDoor.Gn
