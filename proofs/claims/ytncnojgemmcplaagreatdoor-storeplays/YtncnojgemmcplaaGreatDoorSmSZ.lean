/-
  Chapter 17: how much is seen of the program's store at most (plain).
  Chapter 17 in plain Lean: how great the document's numbers can be behind so many moves.
-/
import Derived.Test.YtncnojgemmcplaaGreatDoorSmQZ
import Derived.Test.YtncnojgemmcplaaGreatDoorAbY
namespace Go.Proofs.YtncnojgemmcplaaGreatDoor.St

theorem Sim.toS {P : Pst} {S : Sto} (h : Sim P S) : ToS S := fun x hx => by
  obtain ⟨i, hi⟩ := List.mem_iff_getElem?.1 hx
  rcases h.pair i with ⟨_, e⟩ | ⟨m, y, _, e, h1, h2, _⟩
  · rw [e] at hi; cases hi
  · rw [e] at hi
    cases hi
    rw [h1.tt, h.n, h.k]
    exact h2.tt.2
end Go.Proofs.YtncnojgemmcplaaGreatDoor.St

namespace Go.Proofs.YtncnojgemmcplaaGreatDoor

def HdB (b : Int) (h : Hd) : Prop := -1 ≤ h.s.t ∧ h.s.t ≤ b
def ClB (b : Int) (x : Cl) : Prop := (0 ≤ x.rd ∧ x.rd ≤ b) ∧ (x.cnt.length : Int) ≤ b ∧ HdB b x.kept
/-- The document's store behind b moves. -/
structure DInv (S : Sto) (b : Int) : Prop where
  b0 : 0 ≤ b
  cl : ∀ c : Int, ClB b (S.cl c)
  ml : ∀ m, m ∈ S.mails → HdB b m.l.h
  hs : ∀ a q : Int, HdB b (S.has a q)
section
variable {S : Sto} {b : Int}
theorem HdB.up {h : Hd} (k : HdB b h) : HdB (b + 1) h := ⟨k.1, by have := k.2; omega⟩
theorem ClB.up {x : Cl} (k : ClB b x) : ClB (b + 1) x := ⟨⟨k.1.1, by have := k.1.2; omega⟩, by have := k.2.1; omega, k.2.2.up⟩
theorem DInv.up (h : DInv S b) : DInv S (b + 1) := ⟨by have := h.b0; omega, fun c => (h.cl c).up, fun m hm => (h.ml m hm).up, fun a q => (h.hs a q).up⟩
theorem DInv.turn (h : DInv S b) {c : Int} {x : Cl} (hx : ClB b x) : DInv { S with cl := updC S.cl c x } b := by
  refine ⟨h.b0, fun d => ?_, h.ml, h.hs⟩
  show ClB b (updC S.cl c x d)
  unfold updC
  split
  · exact hx
  · exact h.cl d
theorem DInv.seen (h : DInv S b) (l : List Sn) : DInv { S with seen := l } b := ⟨h.b0, h.cl, h.ml, h.hs⟩
theorem DInv.mails (h : DInv S b) {l : List Ml} (hl : ∀ m, m ∈ l → HdB b m.l.h) : DInv { S with mails := l } b := ⟨h.b0, h.cl, hl, h.hs⟩
theorem DInv.round (h : DInv S b) {c : Int} {x : Cl} (hr : 0 ≤ x.rd ∧ x.rd + 1 ≤ b) (hk : HdB b x.kept) : DInv (roundS S c x) b := by
  have hx : ClB b (roundC x) := ⟨⟨by show 0 ≤ x.rd + 1; omega, hr.2⟩, by show ((0 : Nat) : Int) ≤ b; have := h.b0; omega, hk⟩
  refine (h.turn (c := c) hx).mails (S := { S with cl := updC S.cl c (roundC x) }) fun m hm => ?_
  rcases mem_sendAll hm with hm | ⟨j, _, hm⟩
  · exact h.ml m hm
  · rw [hm]; exact hk
theorem DInv.begin_ (h : DInv S b) (c key : Int) (wr : Bool) (v : Int) : DInv (beginS S c key wr v) (b + 1) := by
  have hc := h.cl c
  have h0 := h.b0
  exact (h.up.seen _).round ⟨hc.1.1, by show (S.cl c).rd + 1 ≤ b + 1; have := hc.1.2; omega⟩ ⟨show (-1 : Int) ≤ -1 by decide, show (-1 : Int) ≤ b + 1 by omega⟩
theorem DInv.give (h : DInv S b) (c : Int) : DInv (giveS S c) b := by
  have hc := h.cl c
  exact (h.seen (S.seen ++ [snOf c (S.cl c) 4 0 zeroS])).turn (x := { S.cl c with busy := false, gone := true }) ⟨hc.1, hc.2.1, hc.2.2⟩
theorem nodeH_b {own : Hd} {l : Ltr} (h1 : HdB b own) (h2 : HdB b l.h) : HdB b (nodeH own l) := by
  unfold nodeH
  split
  · exact h2
  · exact h1
theorem DInv.node (h : DInv S b) {m : Ml} (hm : HdB b m.l.h) : DInv (nodeS S m) b := by
  have hn := nodeH_b (h.hs m.to m.l.key) hm
  refine ⟨h.b0, h.cl, fun x hx => ?_, fun a q => ?_⟩
  · rcases mem_sendL hx with hx | hx
    · exact h.ml x hx
    · rw [hx]; exact hn
  · show HdB b (updH S.has m.to m.l.key (nodeH (S.has m.to m.l.key) m.l) a q)
    unfold updH
    split
    · exact hn
    · exact h.hs a q
theorem DInv.hear (h : DInv S b) (c node : Int) {l : Ltr} (hl : HdB b l.h) : DInv (hearS S c node l) (b + 1) := by
  obtain ⟨⟨r0, r1⟩, hcn, hk⟩ := h.cl c
  unfold hearS
  dsimp only
  generalize (if (S.cl c).tells = true then S.tell else S.ask) = t
  split
  · have hk2 : HdB b (countC (S.cl c) node l.h).kept := by
      unfold countC
      dsimp only
      split
      · exact hl
      · exact hk
    have hy : ClB (b + 1) (countC (S.cl c) node l.h) := ⟨⟨r0, by show (S.cl c).rd ≤ b + 1; omega⟩, by show (((S.cl c).cnt ++ [node]).length : Int) ≤ b + 1; simp; omega, hk2.up⟩
    split
    · exact h.up.turn hy
    · split
      · refine h.up.round ⟨r0, by show (S.cl c).rd + 1 ≤ b + 1; omega⟩ ?_
        unfold tellC
        dsimp only
        split
        · exact ⟨by show -1 ≤ (countC (S.cl c) node l.h).kept.s.t + 1; have := hk2.1; omega, by show (countC (S.cl c) node l.h).kept.s.t + 1 ≤ b + 1; have := hk2.2; omega⟩
        · exact hk2.up
      · exact DInv.turn (S := { S with seen := S.seen ++ [snOf c (countC (S.cl c) node l.h) 2 (if (countC (S.cl c) node l.h).write = true then 0 else (countC (S.cl c) node l.h).kept.v) (countC (S.cl c) node l.h).kept.s] }) (h.up.seen _) (c := c) (x := { countC (S.cl c) node l.h with busy := false }) ⟨hy.1, hy.2.1, hy.2.2⟩
  · exact h.up
theorem DInv.play (h : DInv S b) (m : Mvs) : DInv (playS S m) (b + 1) := by
  unfold playS
  split
  · exact h.up
  split
  · exact h.begin_ _ _ _ _
  split
  · exact h.begin_ _ _ _ _
  split
  · unfold delivS
    split
    · exact h.up
    · rename_i x hx
      have hm := h.ml x (List.mem_of_getElem? hx)
      have h' : DInv { S with mails := S.mails.eraseIdx m.a.toNat } b := h.mails fun y hy => h.ml y (List.mem_of_mem_eraseIdx hy)
      unfold takeS
      split
      · exact (h'.node hm).up
      · exact h'.hear _ _ hm
  split
  · exact (h.mails fun y hy => h.ml y (List.mem_of_mem_eraseIdx hy)).up
  split
  · unfold doubS
    split
    · exact h.up
    · rename_i x hx
      refine (h.mails fun y hy => ?_).up
      rcases mem_sendL hy with hy | hy
      · exact h.ml y hy
      · rw [hy]; exact h.ml x (List.mem_of_getElem? hx)
  split
  · exact (h.give _).up
  split
  · exact ⟨h.up.b0, h.up.cl, h.up.ml, h.up.hs⟩
  · exact ⟨h.up.b0, h.up.cl, h.up.ml, h.up.hs⟩
theorem dinv0 (n k ask tell : Nat) (back : Bool) : DInv (sto0 n k ask tell back) 0 :=
  ⟨Int.le_refl _, fun _ => ⟨⟨Int.le_refl _, Int.le_refl _⟩, Int.le_refl _, show (-1 : Int) ≤ 0 by decide, Int.le_refl _⟩, fun m hm => by (cases hm), fun _ _ => ⟨show (-1 : Int) ≤ 0 by decide, Int.le_refl _⟩⟩
end
end Go.Proofs.YtncnojgemmcplaaGreatDoor
