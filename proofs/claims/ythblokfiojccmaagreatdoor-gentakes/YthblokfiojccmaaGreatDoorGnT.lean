/-
  A generator in memory: its blocks are its own, each part's apart from all others.
-/
import Derived.Test.YthblokfiojccmaaGreatDoorTpW
import Derived.Test.YthblokfiojccmaaGreatDoorGnH
namespace Go.Proofs.YthblokfiojccmaaGreatDoor.Gn
open Go.RowKit

theorem heap_new (w : World) (o : Obj) : (w.alloc o).heap[w.heap.size]? = some o := by
  show (w.heap.push o)[w.heap.size]? = _
  simp
/-- What turns in the blocks X alone; new ones may be made. -/
structure Fr (X : List Nat) (w w' : World) : Prop where
  os : w'.os = w.os
  tape : w'.tape = w.tape
  output : w'.output = w.output
  size : w.heap.size ≤ w'.heap.size
  block : ∀ k, k < w.heap.size → k ∉ X → w'.heap[k]? = w.heap[k]?
theorem Fr.refl (X : List Nat) (w : World) : Fr X w w := ⟨rfl, rfl, rfl, Nat.le_refl _, fun _ _ _ => rfl⟩
theorem Fr.trans {X : List Nat} {a b c : World} (h : Fr X a b) (k : Fr X b c) : Fr X a c :=
  ⟨k.os.trans h.os, k.tape.trans h.tape, k.output.trans h.output, Nat.le_trans h.size k.size, fun i hi hn => (k.block i (Nat.lt_of_lt_of_le hi h.size) hn).trans (h.block i hi hn)⟩
theorem Fr.more {X Y : List Nat} {a b : World} (h : Fr X a b) (hXY : ∀ x ∈ X, x ∈ Y ∨ a.heap.size ≤ x) : Fr Y a b :=
  ⟨h.os, h.tape, h.output, h.size, fun k hk hn => h.block k hk fun hx => by rcases hXY k hx with h | h; exact hn h; omega⟩
theorem Fr.of_grown {X : List Nat} {w w' : World} {row : Option Nat} (h : w.grownBy w' row) (hr : ∀ b, row = some b → b ∈ X) : Fr X w w' :=
  ⟨h.os, h.tape, h.output, h.size, fun k hk hn => h.block k hk fun e => hn (hr k e.symm)⟩
theorem Fr.drewN (X : List Nat) (w : World) (k : Nat) : Fr X w (w.drewN k) := .of_grown (grown_drewN w k) (fun _ e => by cases e)
theorem Fr.alloc (X : List Nat) (w : World) (o : Obj) : Fr X w (w.alloc o) :=
  ⟨rfl, rfl, rfl, by simp, fun k hk _ => Below.heap_alloc w o k hk⟩
theorem Fr.set {X : List Nat} (w : World) (p : Addr) (v : Value) (h : p.block ∈ X) : Fr X w (w.setCell p v) := .of_grown (grown_set w p v) (fun _ e => by cases e; exact h)
/-- A store into a block that was not there at first. -/
theorem Fr.setNew {X : List Nat} {w W : World} (h : Fr X w W) (p : Addr) (v : Value) (hp : w.heap.size ≤ p.block) : Fr X w (W.setCell p v) :=
  ⟨h.os, h.tape, h.output, by simpa [World.setCell] using h.size, fun k hk hn => (Below.heap_setCell W p v k (by omega)).trans (h.block k hk hn)⟩
theorem TpAt.fr {w w' : World} {base B o : Nat} {t : Tp} {X : List Nat} (h : TpAt w base B o t) (hg : Fr X w w') (hB : B ∉ X) (hX : ∀ x ∈ X, base ≤ x) : TpAt w' base B o t := by
  have hlt := h.lt
  obtain ⟨⟨a, cap, c0, hcap, hr⟩, c1, hm, hlo⟩ := h
  have hbk := hg.block B hlt hB
  refine ⟨⟨a, cap, (World.cell?_of_block (a := ⟨B, o, none⟩) hbk).trans c0, hcap, ?_⟩, (World.cell?_of_block (a := ⟨B, o + 1, none⟩) hbk).trans c1, (World.frozen?_of_block (a := ⟨B, o + 1, none⟩) hbk).trans hm, hlo⟩
  refine hr.imp id fun ⟨b, off, e, hb, hcc⟩ => ⟨b, off, e, hb, fun i hi => ?_⟩
  have hbk2 := hg.block b (by omega) (fun e => by have := hX b e; omega)
  exact (World.cell?_of_block (a := ⟨b, off + i, none⟩) hbk2).trans (hcc i hi)
theorem ownsRow_blk {w w' : World} {base : Nat} {e : TypeId} {z n : Nat} {v : Value} {xs : List Value} (h : w.ownsRow base e z v n xs) (hb : ∀ g, v.ownBlock = some g → w'.heap[g]? = w.heap[g]?) : w'.ownsRow base e z v n xs := by
  refine ⟨h.1, h.2.imp id fun ⟨g, cap, cur, e, h1, h2, h3⟩ => ⟨g, cap, cur, e, h1, (hb g (by rw [e]; rfl)).trans h2, h3⟩⟩

/-- The parts of a list, each by P, with its own blocks. -/
inductive Parts (P : Value → Gt → List Nat → Prop) : List Value → List Gt → List Nat → Prop where
  | nil : Parts P [] [] []
  | cons {v : Value} {g : Gt} {bs : List Nat} {vs : List Value} {gs : List Gt} {cs : List Nat} (h : P v g bs) (hs : Parts P vs gs cs) (ha : ∀ b ∈ bs, b ∉ cs) : Parts P (v :: vs) (g :: gs) (bs ++ cs)

theorem Parts.len {P : Value → Gt → List Nat → Prop} {vs : List Value} {gs : List Gt} {cs : List Nat} (h : Parts P vs gs cs) : vs.length = gs.length := by
  induction h with
  | nil => rfl
  | cons _ _ _ ih => simp [ih]
theorem Parts.mono {P Q : Value → Gt → List Nat → Prop} {vs : List Value} {gs : List Gt} {cs : List Nat} (h : Parts P vs gs cs) (k : ∀ v g bs, (∀ b ∈ bs, b ∈ cs) → P v g bs → Q v g bs) : Parts Q vs gs cs := by
  induction h with
  | nil => exact .nil
  | cons h hs ha ih => exact .cons (k _ _ _ (fun b hb => List.mem_append_left _ hb) h) (ih fun v g bs hb => k v g bs fun b hb' => List.mem_append_right _ (hb b hb')) ha
/-- One of them: its own blocks; and how the others stay when it is another one. -/
theorem Parts.at_ {P : Value → Gt → List Nat → Prop} {vs : List Value} {gs : List Gt} {cs : List Nat} (h : Parts P vs gs cs) : ∀ i, (hi : i < gs.length) → ∃ v bs, vs[i]? = some v ∧ P v gs[i] bs ∧ (∀ b ∈ bs, b ∈ cs) ∧
    (∀ (Q : Value → Gt → List Nat → Prop) v' g' bs', (∀ b ∈ bs', b ∈ bs) → Q v' g' bs' → (∀ v g ds, (∀ b ∈ ds, b ∈ cs ∧ b ∉ bs) → P v g ds → Q v g ds) → ∃ cs', Parts Q (vs.set i v') (gs.set i g') cs' ∧ ∀ b ∈ cs', b ∈ cs) ∧
    (∀ (Q : Value → Gt → List Nat → Prop), (∀ v g ds, (∀ b ∈ ds, b ∈ cs ∧ b ∉ bs) → P v g ds → Q v g ds) → ∃ cs', Parts Q (vs.eraseIdx i) (gs.eraseIdx i) cs' ∧ ∀ b ∈ cs', b ∈ cs) := by
  induction h with
  | nil => intro i hi; cases hi
  | @cons v g bs vs gs cs h hs ha ih =>
    intro i hi
    have hap : ∀ b ∈ cs, b ∉ bs := fun b hb hb' => ha b hb' hb
    cases i with
    | zero =>
      refine ⟨v, bs, rfl, h, fun b hb => List.mem_append_left _ hb, fun Q v' g' bs' hbs hQ hP => ?_, fun Q hP => ?_⟩
      · refine ⟨bs' ++ cs, .cons hQ (hs.mono fun v g ds has hp => hP v g ds (fun b hb => ⟨List.mem_append_right _ (has b hb), hap b (has b hb)⟩) hp) (fun b hb => ha b (hbs b hb)), fun b hb => ?_⟩
        rcases List.mem_append.1 hb with hb | hb
        · exact List.mem_append_left _ (hbs b hb)
        · exact List.mem_append_right _ hb
      · exact ⟨cs, hs.mono fun v g ds has hp => hP v g ds (fun b hb => ⟨List.mem_append_right _ (has b hb), hap b (has b hb)⟩) hp, fun b hb => List.mem_append_right _ hb⟩
    | succ i =>
      obtain ⟨u, ds, hu, hp, hin, hset, her⟩ := ih i (by simpa using hi)
      have hno : ∀ b ∈ bs, b ∉ ds := fun b hb hb' => ha b hb (hin b hb')
      refine ⟨u, ds, by simpa using hu, by simpa using hp, fun b hb => List.mem_append_right _ (hin b hb), fun Q v' g' bs' hbs hQ hP => ?_, fun Q hP => ?_⟩
      · obtain ⟨cs', h1, h2⟩ := hset Q v' g' bs' hbs hQ (fun v g ds' has hp => hP v g ds' (fun b hb => ⟨List.mem_append_right _ (has b hb).1, (has b hb).2⟩) hp)
        refine ⟨bs ++ cs', .cons (hP v g bs (fun b hb => ⟨List.mem_append_left _ hb, hno b hb⟩) h) h1 (fun b hb hb' => ha b hb (h2 b hb')), fun b hb => ?_⟩
        rcases List.mem_append.1 hb with hb | hb
        · exact List.mem_append_left _ hb
        · exact List.mem_append_right _ (h2 b hb)
      · obtain ⟨cs', h1, h2⟩ := her Q (fun v g ds' has hp => hP v g ds' (fun b hb => ⟨List.mem_append_right _ (has b hb).1, (has b hb).2⟩) hp)
        refine ⟨bs ++ cs', .cons (hP v g bs (fun b hb => ⟨List.mem_append_left _ hb, hno b hb⟩) h) h1 (fun b hb hb' => ha b hb (h2 b hb')), fun b hb => ?_⟩
        rcases List.mem_append.1 hb with hb | hb
        · exact List.mem_append_left _ hb
        · exact List.mem_append_right _ (h2 b hb)

/-- A row of parts that is only read: from a place on. -/
def RowOf (w : World) (base : Nat) (v : Value) (us : List Value) (r : Nat) : Prop :=
  ∃ o cap, v = .slice (some ⟨r, o, none⟩) us.length cap ∧ us.length ≤ cap ∧ cap ≤ maxLen ∧ base ≤ r ∧ r < w.heap.size ∧ (∀ i, (h : i < us.length) → w.cell? ⟨r, o + i, none⟩ = some us[i])

/-- A generator in memory: bs are its blocks. -/
def GAt : Nat → World → Nat → Value → Gt → List Nat → Prop
  | 0, _, _, _, _, _ => False
  | _ + 1, _, _, v, .rd k, bs => v = .iface 85 (.agg #[.int .i64 k]) ∧ bs = []
  | _ + 1, _, _, v, .wr k lo hi, bs => v = .iface 104 (.agg #[.int .i64 k, .int .i64 lo, .int .i64 hi]) ∧ bs = [] ∧ -1000000 ≤ lo ∧ lo ≤ hi ∧ hi ≤ 1000000
  | n + 1, w, base, v, .lim g left, bs => ∃ b u cs, v = .iface 87 (.pointer (some ⟨b, 0, none⟩)) ∧ bs = b :: cs ∧ base ≤ b ∧ b ∉ cs ∧ w.cell? ⟨b, 0, none⟩ = some u ∧ w.cell? ⟨b, 1, none⟩ = some (.int .i64 (left : Nat)) ∧ w.frozen? ⟨b, 1, none⟩ = false ∧ left ≤ 1000 ∧ GAt n w base u g cs
  | n + 1, w, base, v, .mix l, bs => ∃ b g cap us cs, v = .iface 90 (.pointer (some ⟨b, 0, none⟩)) ∧ bs = b :: g :: cs ∧ base ≤ b ∧ b ≠ g ∧ b ∉ cs ∧ g ∉ cs ∧ w.cell? ⟨b, 0, none⟩ = some (.slice (some ⟨g, 0, none⟩) l.length cap) ∧ w.frozen? ⟨b, 0, none⟩ = false ∧ w.ownsRow base 30 1 (.slice (some ⟨g, 0, none⟩) l.length cap) l.length us ∧ l.length ≤ 2000 ∧ Parts (GAt n w base) us l cs
  | n + 1, w, base, v, .thn l, bs => ∃ b r g us cs, v = .iface 95 (.pointer (some ⟨b, 0, none⟩)) ∧ bs = b :: g :: cs ∧ base ≤ b ∧ b ≠ g ∧ b ∉ cs ∧ g ∉ cs ∧ w.cell? ⟨b, 0, none⟩ = some r ∧ w.frozen? ⟨b, 0, none⟩ = false ∧ RowOf w base r us g ∧ l.length ≤ 2000 ∧ Parts (GAt n w base) us l cs

/-- It hangs on its own blocks alone. -/
theorem GAt.low : ∀ {n : Nat} {w w' : World} {base : Nat} {v : Value} {g : Gt} {bs : List Nat}, GAt n w base v g bs → (∀ b ∈ bs, w'.heap[b]? = w.heap[b]?) → w.heap.size ≤ w'.heap.size → GAt n w' base v g bs
  | 0, _, _, _, _, _, _, h, _, _ => h.elim
  | _ + 1, _, _, _, _, .rd _, _, h, _, _ => h
  | _ + 1, _, _, _, _, .wr _ _ _, _, h, _, _ => h
  | n + 1, w, w', base, v, .lim g left, bs, h, hb, hs => by
    obtain ⟨b, u, cs, h1, rfl, h2, h3, h4, h5, h6, h7, h8⟩ := h
    have e := hb b (by simp)
    exact ⟨b, u, cs, h1, rfl, h2, h3, (World.cell?_of_block (a := ⟨b, 0, none⟩) e).trans h4, (World.cell?_of_block (a := ⟨b, 1, none⟩) e).trans h5, (World.frozen?_of_block (a := ⟨b, 1, none⟩) e).trans h6, h7, h8.low (fun c hc => hb c (by simp [hc])) hs⟩
  | n + 1, w, w', base, v, .mix l, bs, h, hb, hs => by
    obtain ⟨b, g, cap, us, cs, h1, rfl, h2, h3, h4, h5, h6, h7, h8, h9, h10⟩ := h
    have e := hb b (by simp)
    refine ⟨b, g, cap, us, cs, h1, rfl, h2, h3, h4, h5, (World.cell?_of_block (a := ⟨b, 0, none⟩) e).trans h6, (World.frozen?_of_block (a := ⟨b, 0, none⟩) e).trans h7, ownsRow_blk h8 (fun x hx => ?_), h9, h10.mono fun v g ds has hp => hp.low (fun c hc => hb c (by simp [has c hc])) hs⟩
    have hx' : some g = some x := hx
    cases hx'
    exact hb g (by simp)
  | n + 1, w, w', base, v, .thn l, bs, h, hb, hs => by
    obtain ⟨b, r, g, us, cs, h1, rfl, h2, h3, h4, h5, h6, h7, ⟨o, cap, r1, r2, r3, r4, r5, r6⟩, h9, h10⟩ := h
    have e := hb b (by simp)
    have e2 := hb g (by simp)
    exact ⟨b, r, g, us, cs, h1, rfl, h2, h3, h4, h5, (World.cell?_of_block (a := ⟨b, 0, none⟩) e).trans h6, (World.frozen?_of_block (a := ⟨b, 0, none⟩) e).trans h7, ⟨o, cap, r1, r2, r3, r4, Nat.lt_of_lt_of_le r5 hs, fun i hi => (World.cell?_of_block (a := ⟨g, o + i, none⟩) e2).trans (r6 i hi)⟩, h9, h10.mono fun v g ds has hp => hp.low (fun c hc => hb c (by simp [has c hc])) hs⟩
end Go.Proofs.YthblokfiojccmaaGreatDoor.Gn
