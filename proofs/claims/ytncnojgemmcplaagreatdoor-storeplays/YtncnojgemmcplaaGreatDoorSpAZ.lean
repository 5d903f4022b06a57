/-
  The program's store: what each move keeps (plain).
  The program's store: what each move keeps (plain): rounds, Begin, Deliver.
  The program's store: what Deliver keeps (plain).
-/
import Derived.Test.YtncnojgemmcplaaGreatDoorSwMZ
namespace Go.Proofs.YtncnojgemmcplaaGreatDoor.St
open Go.RowKit

def MqOk (n k b : Nat) (m : Mq) : Prop := (0 ≤ m.tt ∧ m.tt < (n : Int) + k) ∧ (0 ≤ m.key ∧ m.key < 8) ∧ 0 ≤ m.t ∧ m.t ≤ b
def PclOk (b : Nat) (x : Pcl) : Prop := x.cnt.length ≤ b ∧ (0 ≤ x.rd ∧ x.rd ≤ b) ∧ (0 ≤ x.kept.s.t ∧ x.kept.s.t ≤ b) ∧ 0 ≤ x.call.k ∧ x.call.k < 8
def HdOk (b : Nat) (x : Hd) : Prop := 0 ≤ x.s.t ∧ x.s.t ≤ b
def FrOk (n k : Nat) (m : Mq) : Prop := 0 ≤ m.fr ∧ m.fr < (n : Int) + k
/-- A store behind b moves. -/
structure PInv (P : Pst) (b : Nat) : Prop where
  n1 : 1 ≤ P.n
  n7 : P.n ≤ 7
  k8 : P.k ≤ 8
  b0 : b ≤ 9000
  ev : P.evs.length ≤ b
  st : P.sts.length ≤ b
  ml : P.mails.length ≤ 500
  mq : ∀ m, m ∈ P.mails → MqOk P.n P.k b m
  cl : ∀ i, i < P.k → PclOk b (P.cl i)
  hs : ∀ i q, i < P.n → q < 8 → HdOk b (P.has i q)
  fr : ∀ m, m ∈ P.mails → FrOk P.n P.k m
theorem PInv.bnd {P : Pst} {b : Nat} (h : PInv P b) : PBnd P b := ⟨h.n7, h.k8, by have := h.ev; have := h.b0; omega, by have := h.st; have := h.b0; omega, h.ml, h.b0, h.mq, fun i hi => ⟨(h.cl i hi).1, (h.cl i hi).2.1, (h.cl i hi).2.2.1⟩⟩
theorem MqOk.up {n k b : Nat} {m : Mq} (h : MqOk n k b m) : MqOk n k (b + 1) m := ⟨h.1, h.2.1, h.2.2.1, by have := h.2.2.2; omega⟩
theorem PclOk.up {b : Nat} {x : Pcl} (h : PclOk b x) : PclOk (b + 1) x := by
  obtain ⟨h1, h2, h3, h4⟩ := h
  exact ⟨by omega, by omega, by omega, h4⟩
theorem HdOk.up {b : Nat} {x : Hd} (h : HdOk b x) : HdOk (b + 1) x := ⟨h.1, by have := h.2; omega⟩
theorem PInv.up {P : Pst} {b : Nat} (h : PInv P b) (hb : b + 1 ≤ 9000) : PInv P (b + 1) :=
  ⟨h.n1, h.n7, h.k8, hb, Nat.le_succ_of_le h.ev, Nat.le_succ_of_le h.st, h.ml, fun m hm => (h.mq m hm).up, fun i hi => (h.cl i hi).up, fun i q hi hq => (h.hs i q hi hq).up, h.fr⟩
theorem PInv.mails {P : Pst} {b : Nat} (h : PInv P b) {L : List Mq} (hL : L.length ≤ 500) (hm : ∀ m, m ∈ L → MqOk P.n P.k b m) (hf : ∀ m, m ∈ L → FrOk P.n P.k m) : PInv { P with mails := L } b :=
  ⟨h.n1, h.n7, h.k8, h.b0, h.ev, h.st, hL, hm, h.cl, h.hs, hf⟩
theorem PInv.send {P : Pst} {b : Nat} (h : PInv P b) {m : Mq} (hm : MqOk P.n P.k b m) (hf : FrOk P.n P.k m) : PInv (sendP P m) b := by
  unfold sendP
  split
  · refine h.mails (by simp; omega) (fun x hx => ?_) fun x hx => ?_
    · rcases List.mem_append.1 hx with hx | hx
      · exact h.mq x hx
      · rw [List.mem_singleton.1 hx]; exact hm
    · rcases List.mem_append.1 hx with hx | hx
      · exact h.fr x hx
      · rw [List.mem_singleton.1 hx]; exact hf
  · exact h
theorem PInv.drop {P : Pst} {b : Nat} (h : PInv P b) (i : Int) : PInv (dropP P i) b := by
  unfold dropP
  split
  · exact h.mails (Nat.le_trans (List.length_eraseIdx_le _ _) h.ml) (fun m hm => h.mq m (List.mem_of_mem_eraseIdx hm)) fun m hm => h.fr m (List.mem_of_mem_eraseIdx hm)
  · exact h
theorem PInv.doub {P : Pst} {b : Nat} (h : PInv P b) (i : Int) : PInv (doubP P i) b := by
  unfold doubP
  split
  · next m hm =>
    split
    · exact h.send (h.mq m (List.mem_of_getElem? hm)) (h.fr m (List.mem_of_getElem? hm))
    · exact h
  · exact h
/-- A client is turned. -/
theorem PInv.turn {P : Pst} {b : Nat} (h : PInv P b) {c : Nat} {x : Pcl} (hx : PclOk b x) : PInv { P with cl := updP P.cl c x } b := by
  refine ⟨h.n1, h.n7, h.k8, h.b0, h.ev, h.st, h.ml, h.mq, fun i hi => ?_, h.hs, h.fr⟩
  show PclOk b (updP P.cl c x i)
  by_cases e : i = c
  · subst e; rw [updP_same]; exact hx
  · rw [updP_ne _ _ e]; exact h.cl i hi
/-- One more is seen. -/
theorem PInv.see {P : Pst} {b : Nat} (h : PInv P b) (hb : b + 1 ≤ 9000) (e : Evp) (s : Smp) : PInv (seeP P e s) (b + 1) := by
  have hu := h.up hb
  exact ⟨h.n1, h.n7, h.k8, hb, by have := h.ev; simp [seeP]; omega, by have := h.st; simp [seeP]; omega, h.ml, hu.mq, hu.cl, hu.hs, hu.fr⟩
theorem PInv.give {P : Pst} {b : Nat} (h : PInv P b) (hb : b + 1 ≤ 9000) (c : Int) : PInv (givePP P c) (b + 1) := by
  unfold givePP
  split
  · next hc =>
    split
    · exact (h.see hb _ _).turn (x := { P.cl c.toNat with at_ := 3 }) (h.cl c.toNat (by omega)).up
    · exact h.up hb
  · exact h.up hb
theorem PInv.done {P : Pst} {b : Nat} (h : PInv P b) (hb : b + 1 ≤ 9000) {c : Nat} (hc : c < P.k) : PInv (doneP P c) (b + 1) :=
  (h.see hb _ _).turn (x := { P.cl c with at_ := 0 }) (h.cl c hc).up
theorem PInv.sends {P : Pst} {b c : Nat} {x : Pcl} (hx : PclOk b x) (hc : c < P.k) : ∀ (m : Nat), m ≤ P.n → PInv P b → PInv (sendsP P c x m) b ∧ (sendsP P c x m).n = P.n ∧ (sendsP P c x m).k = P.k := by
  intro m
  induction m with
  | zero => exact fun _ h => ⟨h, rfl, rfl⟩
  | succ m ih =>
    intro hm h
    obtain ⟨h1, h2, h3⟩ := ih (by omega) h
    have e : sendsP P c x (m + 1) = sendP (sendsP P c x m) (msgP (sendsP P c x m).n c x m) := by
      unfold sendsP
      rw [List.range_succ, List.foldl_append]
      rfl
    obtain ⟨c1, c2, c3, c4⟩ := hx
    have hk : (sendP (sendsP P c x m) (msgP (sendsP P c x m).n c x m)).n = (sendsP P c x m).n ∧ (sendP (sendsP P c x m) (msgP (sendsP P c x m).n c x m)).k = (sendsP P c x m).k := by
      unfold sendP
      split <;> exact ⟨rfl, rfl⟩
    rw [e]
    refine ⟨h1.send ⟨⟨?_, ?_⟩, c4, c3⟩ ⟨?_, ?_⟩, hk.1.trans h2, hk.2.trans h3⟩
    · show (0 : Int) ≤ m
      omega
    · show (m : Int) < _
      rw [h2]
      omega
    · show (0 : Int) ≤ ((sendsP P c x m).n : Int) + c
      omega
    · show ((sendsP P c x m).n : Int) + c < ((sendsP P c x m).n : Int) + ((sendsP P c x m).k : Int)
      rw [h3]
      omega
end Go.Proofs.YtncnojgemmcplaaGreatDoor.St

namespace Go.Proofs.YtncnojgemmcplaaGreatDoor.St
open Go.RowKit

section
variable {P : Pst} {b : Nat}
theorem PInv.round (h : PInv P b) (hb : b + 1 ≤ 9000) {c : Nat} (hck : c < P.k) (hx : (P.cl c).rd + 1 ≤ ((b + 1 : Nat) : Int) ∧ 0 ≤ (P.cl c).rd) (hk : HdOk (b + 1) (P.cl c).kept) (hc : 0 ≤ (P.cl c).call.k ∧ (P.cl c).call.k < 8) (a : Int) : PInv (roundP P c a) (b + 1) := by
  have hx1 : PclOk (b + 1) (roundX (P.cl c) a) := ⟨Nat.zero_le _, ⟨by show 0 ≤ (P.cl c).rd + 1; omega, hx.1⟩, hk, hc⟩
  exact (PInv.sends (P := { P with cl := updP P.cl c (roundX (P.cl c) a) }) hx1 hck P.n (Nat.le_refl _) ((h.up hb).turn hx1)).1
theorem PInv.asked (h : PInv P b) (hb : b + 1 ≤ 9000) {c : Nat} (hc : c < P.k) : PInv (askedP P c) (b + 1) := by
  obtain ⟨h1, h2, h3, h4⟩ := h.cl c hc
  unfold askedP
  split
  · unfold askedX
    split
    · have hx : PclOk (b + 1) { P.cl c with kept := ⟨⟨(P.cl c).kept.s.t + 1, (c : Int)⟩, (P.cl c).call.a⟩ } := ⟨by show (P.cl c).cnt.length ≤ b + 1; omega, ⟨h2.1, by show (P.cl c).rd ≤ _; omega⟩, ⟨by show 0 ≤ (P.cl c).kept.s.t + 1; omega, by show (P.cl c).kept.s.t + 1 ≤ _; omega⟩, h4⟩
      have hy : PclOk (b + 1) (roundX { P.cl c with kept := ⟨⟨(P.cl c).kept.s.t + 1, (c : Int)⟩, (P.cl c).call.a⟩ } 2) := ⟨Nat.zero_le _, ⟨by show 0 ≤ (P.cl c).rd + 1; omega, by show (P.cl c).rd + 1 ≤ _; omega⟩, hx.2.2.1, h4⟩
      unfold roundP
      simp only [updP_same, updP_updP]
      exact (PInv.sends (P := { P with cl := updP P.cl c _ }) hy hc P.n (Nat.le_refl _) ((h.up hb).turn hy)).1
    · rw [updP_self]
      exact h.round hb hc ⟨by omega, h2.1⟩ ⟨h3.1, by have := h3.2; omega⟩ h4 2
  · exact h.done hb hc
theorem PInv.beg (h : PInv P b) (hb : b + 1 ≤ 9000) (c key : Int) (wr : Bool) (v : Int) : PInv (begP P c key wr v) (b + 1) := by
  unfold begP
  split
  · exact h.up hb
  · next hg =>
    split
    · next hf =>
      obtain ⟨hc0, hck⟩ := freeP_zero hf
      obtain ⟨h1, h2, h3, h4⟩ := h.cl c.toNat (by omega)
      have hkey : 0 ≤ key ∧ key < 8 := by
        have hg' : begB key wr v = false := by simpa using hg
        unfold begB at hg'
        rw [Bool.or_eq_false_iff, Bool.or_eq_false_iff, Bool.or_eq_false_iff, Bool.or_eq_false_iff] at hg'
        have a1 := of_decide_eq_false hg'.1.1.1.1
        have a2 := of_decide_eq_false hg'.1.1.1.2
        omega
      unfold beginP roundP
      simp only [updP_same, updP_updP]
      have hy : PclOk (b + 1) (roundX { P.cl c.toNat with call := callP (c.toNat : Int) key wr v, kept := hd0 } 1) := ⟨Nat.zero_le _, ⟨by show 0 ≤ (P.cl c.toNat).rd + 1; omega, by show (P.cl c.toNat).rd + 1 ≤ _; omega⟩, ⟨Int.le_refl _, by show (0 : Int) ≤ _; omega⟩, hkey⟩
      exact (PInv.sends (P := { seeP P (callP (c.toNat : Int) key wr v) zeroS with cl := updP P.cl c.toNat _ }) hy (show c.toNat < P.k by omega) P.n (Nat.le_refl _) ((h.see hb (callP (c.toNat : Int) key wr v) zeroS).turn hy)).1
    · exact h.up hb
theorem HdOk.newer {x y : Hd} (hx : HdOk b x) (hy : HdOk b y) : HdOk b (newerH x y) := by
  unfold newerH
  split
  · exact hy
  · exact hx
end
end Go.Proofs.YtncnojgemmcplaaGreatDoor.St

namespace Go.Proofs.YtncnojgemmcplaaGreatDoor.St
open Go.RowKit

section
variable {P : Pst} {b : Nat}
theorem PInv.count (h : PInv P b) (hb : b + 2 ≤ 9000) {m : Mq} (hm : MqOk P.n P.k b m) (ht : (P.n : Int) ≤ m.tt) : PInv (countP_ P m) (b + 2) := by
  have hi : (m.tt - (P.n : Int)).toNat < P.k := by have := hm.1.2; omega
  generalize hw : (m.tt - (P.n : Int)).toNat = i at hi
  have hcx : PclOk (b + 1) (countX (P.cl i) m) := by
    obtain ⟨h1, h2, h3, h4⟩ := h.cl i hi
    refine ⟨by simp [countX]; omega, ⟨h2.1, by show (P.cl i).rd ≤ _; omega⟩, ?_, h4⟩
    show HdOk (b + 1) (if (P.cl i).at_ = 1 then newerH (P.cl i).kept (mqH m) else (P.cl i).kept)
    split
    · exact (HdOk.newer (y := mqH m) h3 hm.2.2).up
    · exact HdOk.up h3
  have h1 := (h.up (by omega)).turn (c := i) hcx
  unfold countP_
  rw [hw]
  split
  · split
    · split
      · exact h1.asked hb hi
      · exact h1.up hb
    · split
      · exact h1.done hb hi
      · exact h1.up hb
  · exact (h.up (by omega)).up hb
theorem PInv.answer (h : PInv P b) {m : Mq} (hm : MqOk P.n P.k b m) (hf : 0 ≤ m.fr ∧ m.fr < (P.n : Int) + P.k) (ht : m.tt < (P.n : Int)) : PInv (answerP P m) b := by
  have hy : HdOk b (answerH (P.has m.tt.toNat m.key.toNat) m) := by
    have h0 := h.hs m.tt.toNat m.key.toNat (by have := hm.1.1; omega) (by have := hm.2.1; omega)
    unfold answerH
    split
    · exact HdOk.newer h0 hm.2.2
    · exact h0
  unfold answerP
  generalize answerH (P.has m.tt.toNat m.key.toNat) m = y at *
  refine PInv.send (P := { P with has := upd2 P.has m.tt.toNat m.key.toNat y }) ⟨h.n1, h.n7, h.k8, h.b0, h.ev, h.st, h.ml, h.mq, h.cl, fun i q hi hq => ?_, h.fr⟩ ⟨hf, hm.2.1, hy⟩ ⟨hm.1.1, hm.1.2⟩
  show HdOk b (upd2 P.has m.tt.toNat m.key.toNat y i q)
  unfold upd2
  split
  · exact hy
  · exact h.hs i q hi hq
theorem PInv.deli (h : PInv P b) (hb : b + 2 ≤ 9000) (i : Int) : PInv (deliP P i) (b + 2) := by
  have hu := (h.up (by omega)).up hb
  unfold deliP
  split
  · next m hm =>
    have hmem := List.mem_of_getElem? hm
    split
    · split
      · have h1 : PInv { P with mails := P.mails.eraseIdx i.toNat } b := h.mails (Nat.le_trans (List.length_eraseIdx_le _ _) h.ml) (fun m hm => h.mq m (List.mem_of_mem_eraseIdx hm)) fun m hm => h.fr m (List.mem_of_mem_eraseIdx hm)
        unfold gotP
        split
        · next ht => exact ((h1.answer (h.mq m hmem) (h.fr m hmem) ht).up (by omega)).up hb
        · next ht => exact h1.count hb (h.mq m hmem) (by show (P.n : Int) ≤ m.tt; have := ht; simp only at this; omega)
      · exact hu
    · exact hu
  · exact hu
end
end Go.Proofs.YtncnojgemmcplaaGreatDoor.St
