/-
  Chapter 17, the program's store: each part that is turned.
  Chapter 17, the document's store: each piece that is turned.
-/
import Derived.Test.YtncnojgemmcplaaGreatDoorStMZ
namespace Go.Proofs.YtncnojgemmcplaaGreatDoor.St
open Go.RowKit

/-- What an error's number is as a value. -/
def toldE (c : Int) : Value := if c = 0 then .nilIface else .iface 38 (.int .i64 c)
section
variable {w0 W W' W1 : World} {K : StK} {P : Pst}
/-- Mails. -/
theorem StoP.mail (h : StoP w0 W K P) {L' : List Mq} {v' : Value} (ht : MailT w0.heap.size K.B 5 K.vm L' W W' v') : StoP w0 W' { K with vm := v' } { P with mails := L' } ∧ SFr K P.k W W' { K with vm := v' } := by
  have hk : ∀ b, b < W.heap.size → ¬ (b = K.B ∨ K.vm.ownBlock = some b) → W'.heap[b]? = W.heap[b]? := fun b hb hn => ht.rest b hb (fun e => hn (.inl e)) (fun e => hn (.inr e))
  have nX : ∀ {b x : Nat}, tagD W.heap[b]? = x → x ≠ 81 + 1 → x ≠ 127 + 1 → ¬ (b = K.B ∨ K.vm.ownBlock = some b) := fun hx h1 h2 e => e.elim (fun e => ne_tagD hx h.tB h1 e) fun e => ne_tagD hx (h.tM e) h2 rfl
  obtain ⟨pN, pC, _, pE, pS, pI, pL⟩ := h.parts (X := fun b => b = K.B ∨ K.vm.ownBlock = some b) hk
  obtain ⟨n1, n2⟩ := pN (nX h.tN (by decide) (by decide))
  obtain ⟨c1, c2⟩ := pC (nX h.tC (by decide) (by decide))
  refine ⟨⟨ht.below h.bel h.lo.1 (fun b hb => (ownsRow_block h.ml b hb).1) h.bel.size, ?_, n1, n2, c1, c2, ht.row, pE fun b hb => nX (h.tE hb) (by decide) (by decide), pS fun b hb => nX (h.tS hb) (by decide) (by decide), fun i hi => pI i hi fun b hb => nX (h.tI hi hb) (by decide) (by decide), pL fun b hb => hb.elim (fun e => nX e (by decide) (by decide)) fun e => nX e (by decide) (by decide), h.lo, h.dc⟩, ⟨rfl, rfl, rfl⟩, ht.size, fun b hb hn => hk b hb fun e => hn (e.elim .inl fun e => .inr (.inr (.inr (.inl e)))), fun b hb => ?_⟩
  · rw [ht.blk]
    exact heap_setCell_same W K.B 5 _ 81 _ h.blk
  · rcases hb with hb | hb | hb | hb | hb
    · exact .inl (.inl hb)
    · exact .inl (.inr (.inl hb))
    · exact .inl (.inr (.inr (.inl hb)))
    · rcases ht.own with e | ⟨b', e, hb'⟩
      · exact .inl (.inr (.inr (.inr (.inl (by rw [← e]; exact hb)))))
      · have : some b' = some b := e.symm.trans hb
        cases this
        exact .inr hb'
    · exact .inl (.inr (.inr (.inr (.inr hb))))
/-- What turns in one block alone, within some cells. -/
structure OnlyC (W W' : World) (C o m : Nat) (t : TypeId) : Prop where
  rest : ∀ b, b ≠ C → W'.heap[b]? = W.heap[b]?
  blk : ∃ cur, W'.heap[C]? = some (.cells cur t (0, 0))
  cells : ∀ j, (j < o ∨ o + m ≤ j) → W'.cell? ⟨C, j, none⟩ = W.cell? ⟨C, j, none⟩
  size : W'.heap.size = W.heap.size
  os : W'.os = W.os
  tape : W'.tape = W.tape
  output : W'.output = W.output
theorem OnlyC.refl {C o m : Nat} {t : TypeId} (h : ∃ cur, W.heap[C]? = some (.cells cur t (0, 0))) : OnlyC W W C o m t := ⟨fun _ _ => rfl, h, fun _ _ => rfl, rfl, rfl, rfl, rfl⟩
theorem OnlyC.set {C o m : Nat} {t : TypeId} (h : OnlyC W W' C o m t) {j : Nat} (hj : o ≤ j ∧ j < o + m) (u : Value) : OnlyC W (W'.setCell ⟨C, j, none⟩ u) C o m t := by
  obtain ⟨cur, hc⟩ := h.blk
  obtain ⟨cur', hc', _⟩ := heap_setCell hc j u
  exact ⟨fun b hb => (Below.heap_setCell W' ⟨C, j, none⟩ u b hb).trans (h.rest b hb), ⟨cur', hc'⟩, fun i hi => (World.cell?_setCell_other _ _ _ _ (offNe (by omega))).trans (h.cells i hi), by simpa using h.size, h.os, h.tape, h.output⟩
/-- A client. -/
theorem StoP.setC (h : StoP w0 W K P) {i : Nat} (hi : i < P.k) (hO : OnlyC W W' K.C (i * 13) 13 103) {x : Pcl} {cv : Value} (hc : ClAt W' K.C (i * 13) x cv) (hv : (cv = K.cv i ∧ x.cnt = (P.cl i).cnt) ∨ (cv = .slice none 0 0 ∧ x.cnt = [])) :
    StoP w0 W' { K with cv := updP K.cv i cv } { P with cl := updP P.cl i x } ∧ SFr K P.k W W' { K with cv := updP K.cv i cv } := by
  obtain ⟨pN, _, pM, pE, pS, pI, pL⟩ := h.parts (X := fun b => b = K.C) (fun b _ hb => hO.rest b hb)
  obtain ⟨n1, n2⟩ := pN (ne_tagD h.tN h.tC (by decide))
  have hown : ∀ j b, j < P.k → (updP K.cv i cv j).ownBlock = some b → (K.cv j).ownBlock = some b := fun j b _ hb => by
    by_cases e : j = i
    · subst e
      rw [updP_same] at hb
      rcases hv with ⟨e, _⟩ | ⟨e, _⟩
      · rw [← e]; exact hb
      · rw [e] at hb; cases hb
    · rwa [updP_ne _ _ e] at hb
  refine ⟨⟨⟨hO.os.trans h.bel.os, hO.tape.trans h.bel.tape, hO.output.trans h.bel.output, by rw [hO.size]; exact h.bel.size, fun b hb => (hO.rest b (by have := h.lo.2.2; omega)).trans (h.bel.block b hb)⟩, (hO.rest _ (ne_tagD h.tB h.tC (by decide))).trans h.blk, n1, n2, hO.blk, fun j hj => ?_, pM fun b hb => ne_tagD (h.tM hb) h.tC (by decide), pE fun b hb => ne_tagD (h.tE hb) h.tC (by decide), pS fun b hb => ne_tagD (h.tS hb) h.tC (by decide), fun j hj => ?_, pL fun b hb => hb.elim (fun e => ne_tagD e h.tC (by decide)) fun e => ne_tagD e h.tC (by decide), h.lo, fun a b ha hb hne c hc' he => h.dc a b ha hb hne c (hown a c ha hc') (hown b c hb he)⟩, ⟨rfl, rfl, rfl⟩, by rw [hO.size]; exact Nat.le_refl _, fun b _ hn => hO.rest b fun e => hn (.inr (.inr (.inl e))), fun b hb => ?_⟩
  · show ClAt W' K.C (j * 13) (updP P.cl i x j) (updP K.cv i cv j)
    by_cases e : j = i
    · subst e; rw [updP_same, updP_same]; exact hc
    · rw [updP_ne _ _ e, updP_ne _ _ e]
      exact (h.cx j hj).cells fun q h1 h2 => hO.cells q (by omega)
  · show World.ownsRow _ _ _ _ (updP K.cv i cv j) (updP P.cl i x j).cnt.length (intC (updP P.cl i x j).cnt)
    by_cases e : j = i
    · subst e
      rw [updP_same, updP_same]
      rcases hv with ⟨e1, e2⟩ | ⟨e1, e2⟩
      · rw [e1, e2]; exact pI j hj fun b hb => ne_tagD (h.tI hj hb) h.tC (by decide)
      · rw [e1, e2]; exact ⟨rfl, .inl ⟨rfl, rfl⟩⟩
    · rw [updP_ne _ _ e, updP_ne _ _ e]
      exact pI j hj fun b hb => ne_tagD (h.tI hj hb) h.tC (by decide)
  · rcases hb with hb | hb | hb | hb | hb | hb | ⟨j, hj, hb⟩
    · exact .inl (.inl hb)
    · exact .inl (.inr (.inl hb))
    · exact .inl (.inr (.inr (.inl hb)))
    · exact .inl (.inr (.inr (.inr (.inl hb))))
    · exact .inl (.inr (.inr (.inr (.inr (.inl hb)))))
    · exact .inl (.inr (.inr (.inr (.inr (.inr (.inl hb))))))
    · exact .inl (.inr (.inr (.inr (.inr (.inr (.inr ⟨j, hj, hown j b hj hb⟩))))))
theorem updP_self {α : Type} (f : Nat → α) (i : Nat) : updP f i (f i) = f := by
  funext j
  by_cases e : j = i
  · subst e; exact updP_same _ _ _
  · exact updP_ne _ _ e
/-- What a node has of a key. -/
theorem StoP.setN (h : StoP w0 W K P) {i q : Nat} (hi : i < P.n) (hq : q < 8) (hO : OnlyC W W' K.N (i * 24 + q * 3) 3 84) {x : Hd} (hx : HdAt W' K.N (i * 24 + q * 3) x) : StoP w0 W' K { P with has := upd2 P.has i q x } ∧ SFr K P.k W W' K := by
  obtain ⟨_, pC, pM, pE, pS, pI, pL⟩ := h.parts (X := fun b => b = K.N) (fun b _ hb => hO.rest b hb)
  obtain ⟨c1, c2⟩ := pC (ne_tagD h.tC h.tN (by decide))
  refine ⟨⟨⟨hO.os.trans h.bel.os, hO.tape.trans h.bel.tape, hO.output.trans h.bel.output, by rw [hO.size]; exact h.bel.size, fun b hb => (hO.rest b (by have := h.lo.2.1; omega)).trans (h.bel.block b hb)⟩, (hO.rest _ (ne_tagD h.tB h.tN (by decide))).trans h.blk, hO.blk, fun j s hj hs => ?_, c1, c2, pM fun b hb => ne_tagD (h.tM hb) h.tN (by decide), pE fun b hb => ne_tagD (h.tE hb) h.tN (by decide), pS fun b hb => ne_tagD (h.tS hb) h.tN (by decide), fun j hj => pI j hj fun b hb => ne_tagD (h.tI hj hb) h.tN (by decide), pL fun b hb => hb.elim (fun e => ne_tagD e h.tN (by decide)) fun e => ne_tagD e h.tN (by decide), h.lo, h.dc⟩, ⟨rfl, rfl, rfl⟩, by rw [hO.size]; exact Nat.le_refl _, fun b _ hn => hO.rest b fun e => hn (.inr (.inl e)), fun b hb => .inl hb⟩
  show HdAt W' K.N (j * 24 + s * 3) (upd2 P.has i q x j s)
  unfold upd2
  by_cases e : j = i ∧ s = q
  · obtain ⟨rfl, rfl⟩ := e
    rw [if_pos ⟨rfl, rfl⟩]; exact hx
  · rw [if_neg e]
    exact (h.nx j s hj hs).cells fun p h1 h2 => hO.cells p (by omega)
/-- What is seen. -/
theorem StoP.pushE (h : StoP w0 W K P) {e : Evp} {v' : Value} (ho : W1.ownsRow w0.heap.size 101 7 v' (P.evs ++ [e]).length (evCs (P.evs ++ [e]))) (hg : W.grownBy W1 K.ve.ownBlock) (hv : v'.ownBlock = K.ve.ownBlock ∨ v'.ownBlock = some W.heap.size) :
    StoP w0 (W1.setCell ⟨K.B, 9, none⟩ v') { K with ve := v' } { P with evs := P.evs ++ [e] } ∧ SFr K P.k W (W1.setCell ⟨K.B, 9, none⟩ v') { K with ve := v' } := by
  have hk : ∀ b, b < W.heap.size → ¬ (b = K.B ∨ K.ve.ownBlock = some b) → (W1.setCell ⟨K.B, 9, none⟩ v').heap[b]? = W.heap[b]? := fun b hb hn => (Below.heap_setCell W1 ⟨K.B, 9, none⟩ v' b fun e => hn (.inl e)).trans (hg.block b hb fun e => hn (.inr e.symm))
  have nX : ∀ {b x : Nat}, tagD W.heap[b]? = x → x ≠ 81 + 1 → x ≠ 101 + 1 → ¬ (b = K.B ∨ K.ve.ownBlock = some b) := fun hx h1 h2 e => e.elim (fun e => ne_tagD hx h.tB h1 e) fun e => ne_tagD hx (h.tE e) h2 rfl
  obtain ⟨pN, pC, pM, _, pS, pI, pL⟩ := h.parts (X := fun b => b = K.B ∨ K.ve.ownBlock = some b) hk
  obtain ⟨n1, n2⟩ := pN (nX h.tN (by decide) (by decide))
  obtain ⟨c1, c2⟩ := pC (nX h.tC (by decide) (by decide))
  have eB : W1.heap[K.B]? = W.heap[K.B]? := hg.block _ h.ltB fun e => ne_tagD h.tB (h.tE e.symm) (by decide) rfl
  have hne : v'.ownBlock ≠ some K.B := fun e' => by
    rcases hv with e | e
    · rw [e] at e'; exact ne_tagD (h.tE e') h.tB (by decide) rfl
    · rw [e] at e'; have := h.ltB; have := Option.some.inj e'; omega
  refine ⟨⟨(h.bel.grown hg h.bel.size fun b hb => (ownsRow_block h.ev b hb).1).setCell (p := ⟨K.B, 9, none⟩) h.lo.1 _, heap_setCell_same W1 K.B 9 _ 81 _ (eB.trans h.blk), n1, n2, c1, c2, pM fun b hb => nX (h.tM hb) (by decide) (by decide), ownsRow_same ho fun b hb => Below.heap_setCell W1 ⟨K.B, 9, none⟩ v' b (fun e => hne (by rw [hb, e])), pS fun b hb => nX (h.tS hb) (by decide) (by decide), fun i hi => pI i hi fun b hb => nX (h.tI hi hb) (by decide) (by decide), pL fun b hb => hb.elim (fun e => nX e (by decide) (by decide)) fun e => nX e (by decide) (by decide), h.lo, h.dc⟩, ⟨rfl, rfl, rfl⟩, by have := hg.size; simpa using this, fun b hb hn => hk b hb fun e => hn (e.elim .inl fun e => .inr (.inr (.inr (.inr (.inl e))))), fun b hb => ?_⟩
  rcases hb with hb | hb | hb | hb | hb | hb
  · exact .inl (.inl hb)
  · exact .inl (.inr (.inl hb))
  · exact .inl (.inr (.inr (.inl hb)))
  · exact .inl (.inr (.inr (.inr (.inl hb))))
  · rcases hv with e | e
    · exact .inl (.inr (.inr (.inr (.inr (.inl (by rw [← e]; exact hb))))))
    · have : some W.heap.size = some b := e.symm.trans hb
      cases this
      exact .inr (Nat.le_refl _)
  · exact .inl (.inr (.inr (.inr (.inr (.inr hb)))))
theorem StoP.pushS (h : StoP w0 W K P) {e : Smp} {v' : Value} (ho : W1.ownsRow w0.heap.size 60 2 v' (P.sts ++ [e]).length (spCs (P.sts ++ [e]))) (hg : W.grownBy W1 K.vs.ownBlock) (hv : v'.ownBlock = K.vs.ownBlock ∨ v'.ownBlock = some W.heap.size) :
    StoP w0 (W1.setCell ⟨K.B, 10, none⟩ v') { K with vs := v' } { P with sts := P.sts ++ [e] } ∧ SFr K P.k W (W1.setCell ⟨K.B, 10, none⟩ v') { K with vs := v' } := by
  have hk : ∀ b, b < W.heap.size → ¬ (b = K.B ∨ K.vs.ownBlock = some b) → (W1.setCell ⟨K.B, 10, none⟩ v').heap[b]? = W.heap[b]? := fun b hb hn => (Below.heap_setCell W1 ⟨K.B, 10, none⟩ v' b fun e => hn (.inl e)).trans (hg.block b hb fun e => hn (.inr e.symm))
  have nX : ∀ {b x : Nat}, tagD W.heap[b]? = x → x ≠ 81 + 1 → x ≠ 60 + 1 → ¬ (b = K.B ∨ K.vs.ownBlock = some b) := fun hx h1 h2 e => e.elim (fun e => ne_tagD hx h.tB h1 e) fun e => ne_tagD hx (h.tS e) h2 rfl
  obtain ⟨pN, pC, pM, pE, _, pI, pL⟩ := h.parts (X := fun b => b = K.B ∨ K.vs.ownBlock = some b) hk
  obtain ⟨n1, n2⟩ := pN (nX h.tN (by decide) (by decide))
  obtain ⟨c1, c2⟩ := pC (nX h.tC (by decide) (by decide))
  have eB : W1.heap[K.B]? = W.heap[K.B]? := hg.block _ h.ltB fun e => ne_tagD h.tB (h.tS e.symm) (by decide) rfl
  have hne : v'.ownBlock ≠ some K.B := fun e' => by
    rcases hv with e | e
    · rw [e] at e'; exact ne_tagD (h.tS e') h.tB (by decide) rfl
    · rw [e] at e'; have := h.ltB; have := Option.some.inj e'; omega
  refine ⟨⟨(h.bel.grown hg h.bel.size fun b hb => (ownsRow_block h.st b hb).1).setCell (p := ⟨K.B, 10, none⟩) h.lo.1 _, heap_setCell_same W1 K.B 10 _ 81 _ (eB.trans h.blk), n1, n2, c1, c2, pM fun b hb => nX (h.tM hb) (by decide) (by decide), pE fun b hb => nX (h.tE hb) (by decide) (by decide), ownsRow_same ho fun b hb => Below.heap_setCell W1 ⟨K.B, 10, none⟩ v' b (fun e => hne (by rw [hb, e])), fun i hi => pI i hi fun b hb => nX (h.tI hi hb) (by decide) (by decide), pL fun b hb => hb.elim (fun e => nX e (by decide) (by decide)) fun e => nX e (by decide) (by decide), h.lo, h.dc⟩, ⟨rfl, rfl, rfl⟩, by have := hg.size; simpa using this, fun b hb hn => hk b hb fun e => hn (e.elim .inl fun e => .inr (.inr (.inr (.inr (.inr (.inl e)))))), fun b hb => ?_⟩
  rcases hb with hb | hb | hb | hb | hb | hb | hb
  · exact .inl (.inl hb)
  · exact .inl (.inr (.inl hb))
  · exact .inl (.inr (.inr (.inl hb)))
  · exact .inl (.inr (.inr (.inr (.inl hb))))
  · exact .inl (.inr (.inr (.inr (.inr (.inl hb)))))
  · rcases hv with e | e
    · exact .inl (.inr (.inr (.inr (.inr (.inr (.inl (by rw [← e]; exact hb)))))))
    · have : some W.heap.size = some b := e.symm.trans hb
      cases this
      exact .inr (Nat.le_refl _)
  · exact .inl (.inr (.inr (.inr (.inr (.inr (.inr hb))))))
/-- Who was counted. -/
theorem StoP.pushC (h : StoP w0 W K P) {i : Nat} (hi : i < P.k) {x : Int} {v' : Value} (ho : W1.ownsRow w0.heap.size 3 1 v' ((P.cl i).cnt ++ [x]).length (intC ((P.cl i).cnt ++ [x]))) (hg : W.grownBy W1 (K.cv i).ownBlock) (hv : v'.ownBlock = (K.cv i).ownBlock ∨ v'.ownBlock = some W.heap.size) :
    StoP w0 (W1.setCell ⟨K.C, i * 13 + 9, none⟩ v') { K with cv := updP K.cv i v' } { P with cl := updP P.cl i { P.cl i with cnt := (P.cl i).cnt ++ [x] } } ∧ SFr K P.k W (W1.setCell ⟨K.C, i * 13 + 9, none⟩ v') { K with cv := updP K.cv i v' } := by
  have hk : ∀ b, b < W.heap.size → ¬ (b = K.C ∨ (K.cv i).ownBlock = some b) → (W1.setCell ⟨K.C, i * 13 + 9, none⟩ v').heap[b]? = W.heap[b]? := fun b hb hn => (Below.heap_setCell W1 ⟨K.C, i * 13 + 9, none⟩ v' b fun e => hn (.inl e)).trans (hg.block b hb fun e => hn (.inr e.symm))
  have nX : ∀ {b x : Nat}, tagD W.heap[b]? = x → x ≠ 103 + 1 → x ≠ 4 → ¬ (b = K.C ∨ (K.cv i).ownBlock = some b) := fun hx h1 h2 e => e.elim (fun e => ne_tagD hx h.tC h1 e) fun e => ne_tagD hx (h.tI hi e) h2 rfl
  obtain ⟨pN, _, pM, pE, pS, pI, pL⟩ := h.parts (X := fun b => b = K.C ∨ (K.cv i).ownBlock = some b) hk
  obtain ⟨n1, n2⟩ := pN (nX h.tN (by decide) (by decide))
  have eC : W1.heap[K.C]? = W.heap[K.C]? := hg.block _ h.ltC fun e => ne_tagD h.tC (h.tI hi e.symm) (by decide) rfl
  obtain ⟨cur, hcur⟩ := h.cb
  obtain ⟨cur', hcur', _⟩ := heap_setCell (eC.trans hcur) (i * 13 + 9) v'
  have hne : v'.ownBlock ≠ some K.C := fun e' => by
    rcases hv with e | e
    · rw [e] at e'; exact ne_tagD (h.tI hi e') h.tC (by decide) rfl
    · rw [e] at e'; have := h.ltC; have := Option.some.inj e'; omega
  have hc1 : ∀ j, j ≠ i * 13 + 9 → (W1.setCell ⟨K.C, i * 13 + 9, none⟩ v').cell? ⟨K.C, j, none⟩ = W.cell? ⟨K.C, j, none⟩ := fun j hj => (World.cell?_setCell_other _ _ _ _ (offNe (Ne.symm hj))).trans (World.cell?_of_block (a := ⟨K.C, j, none⟩) eC)
  have hown : ∀ {b}, v'.ownBlock = some b → (K.cv i).ownBlock = some b ∨ b = W.heap.size := fun hb => by
    rcases hv with e | e
    · exact .inl (by rw [← e]; exact hb)
    · rw [e] at hb; exact .inr (Option.some.inj hb).symm
  refine ⟨⟨(h.bel.grown hg h.bel.size fun b hb => (ownsRow_block (h.ct i hi) b hb).1).setCell (p := ⟨K.C, i * 13 + 9, none⟩) h.lo.2.2 _, (hk _ h.ltB (nX h.tB (by decide) (by decide))).trans h.blk, n1, n2, ⟨cur', hcur'⟩, fun j hj => ?_, pM fun b hb => nX (h.tM hb) (by decide) (by decide), pE fun b hb => nX (h.tE hb) (by decide) (by decide), pS fun b hb => nX (h.tS hb) (by decide) (by decide), fun j hj => ?_, pL fun b hb => hb.elim (fun e => nX e (by decide) (by decide)) fun e => nX e (by decide) (by decide), h.lo, fun a c ha hc hac b hb he => ?_⟩, ⟨rfl, rfl, rfl⟩, by have := hg.size; simpa using this, fun b hb hn => hk b hb fun e => hn (e.elim (fun e => .inr (.inr (.inl e))) fun e => .inr (.inr (.inr (.inr (.inr (.inr ⟨i, hi, e⟩)))))), fun b hb => ?_⟩
  · show ClAt _ K.C (j * 13) (updP P.cl i _ j) (updP K.cv i v' j)
    by_cases e : j = i
    · subst e
      rw [updP_same, updP_same]
      have hx := h.cx j hj
      exact ⟨(hc1 _ (by omega)).trans hx.at_, hx.call.cells fun q h1 h2 => hc1 q (by omega), (hc1 _ (by omega)).trans hx.rd, World.cell?_setCell_same' _ _ _ (by rw [World.cell?_of_block (a := ⟨K.C, j * 13 + 9, none⟩) eC, hx.cv]; rfl), hx.kept.cells fun q h1 h2 => hc1 q (by omega)⟩
    · rw [updP_ne _ _ e, updP_ne _ _ e]
      exact (h.cx j hj).cells fun q h1 h2 => hc1 q (by omega)
  · show World.ownsRow _ _ _ _ (updP K.cv i v' j) (updP P.cl i _ j).cnt.length (intC (updP P.cl i _ j).cnt)
    by_cases e : j = i
    · subst e
      rw [updP_same, updP_same]
      exact ownsRow_same ho fun b hb => Below.heap_setCell W1 ⟨K.C, j * 13 + 9, none⟩ v' b (fun e => hne (by rw [hb, e]))
    · rw [updP_ne _ _ e, updP_ne _ _ e]
      exact pI j hj fun b hb hx => hx.elim (fun e' => ne_tagD (h.tI hj hb) h.tC (by decide) e') fun e' => h.dc i j hi hj (Ne.symm e) b e' hb
  · replace hb : (updP K.cv i v' a).ownBlock = some b := hb
    replace he : (updP K.cv i v' c).ownBlock = some b := he
    have hlt : ∀ j, j < P.k → (K.cv j).ownBlock = some b → b < W.heap.size := fun j hj e => (ownsRow_block (h.ct j hj) b e).2.1
    by_cases ea : a = i
    · subst ea
      rw [updP_same] at hb
      rw [updP_ne _ _ (Ne.symm hac)] at he
      rcases hown hb with e | e
      · exact h.dc a c ha hc hac b e he
      · have := hlt c hc he; omega
    · rw [updP_ne _ _ ea] at hb
      by_cases ec : c = i
      · subst ec
        rw [updP_same] at he
        rcases hown he with e | e
        · exact h.dc a c ha hc hac b hb e
        · have := hlt a ha hb; omega
      · rw [updP_ne _ _ ec] at he
        exact h.dc a c ha hc hac b hb he
  · rcases hb with hb | hb | hb | hb | hb | hb | ⟨j, hj, hb⟩
    · exact .inl (.inl hb)
    · exact .inl (.inr (.inl hb))
    · exact .inl (.inr (.inr (.inl hb)))
    · exact .inl (.inr (.inr (.inr (.inl hb))))
    · exact .inl (.inr (.inr (.inr (.inr (.inl hb)))))
    · exact .inl (.inr (.inr (.inr (.inr (.inr (.inl hb))))))
    · replace hb : (updP K.cv i v' j).ownBlock = some b := hb
      by_cases e : j = i
      · subst e
        rw [updP_same] at hb
        rcases hown hb with e | e
        · exact .inl (.inr (.inr (.inr (.inr (.inr (.inr ⟨j, hj, e⟩))))))
        · exact .inr (by omega)
      · rw [updP_ne _ _ e] at hb
        exact .inl (.inr (.inr (.inr (.inr (.inr (.inr ⟨j, hj, hb⟩))))))
/-- Who can talk. -/
theorem StoP.setL (h : StoP w0 W K P) (hb : Below W.heap.size W W1) {lv' : Value} {nil : Bool} {r : Nat → Nat → Bool} (hl : LkP W1 lv' nil (tabL (P.n + P.k) r)) : StoP w0 (W1.setCell ⟨K.B, 6, none⟩ lv') { K with lv := lv' } { P with nil := nil, lr := r } ∧ SFr K P.k W (W1.setCell ⟨K.B, 6, none⟩ lv') { K with lv := lv' } := by
  have h1 := h.below hb
  have hk : ∀ b, b < W1.heap.size → ¬ b = K.B → (W1.setCell ⟨K.B, 6, none⟩ lv').heap[b]? = W1.heap[b]? := fun b _ hn => Below.heap_setCell W1 ⟨K.B, 6, none⟩ lv' b hn
  obtain ⟨pN, pC, pM, pE, pS, pI, _⟩ := h1.parts (X := fun b => b = K.B) hk
  obtain ⟨n1, n2⟩ := pN (ne_tagD h1.tN h1.tB (by decide))
  obtain ⟨c1, c2⟩ := pC (ne_tagD h1.tC h1.tB (by decide))
  refine ⟨⟨h1.bel.setCell (p := ⟨K.B, 6, none⟩) h.lo.1 _, heap_setCell_same W1 K.B 6 _ 81 _ h1.blk, n1, n2, c1, c2, pM fun b hb => ne_tagD (h1.tM hb) h1.tB (by decide), pE fun b hb => ne_tagD (h1.tE hb) h1.tB (by decide), pS fun b hb => ne_tagD (h1.tS hb) h1.tB (by decide), fun i hi => pI i hi fun b hb => ne_tagD (h1.tI hi hb) h1.tB (by decide), hl.keep fun b hb => hk b hb.lt (hb.elim (fun e => ne_tagD e h1.tB (by decide)) fun e => ne_tagD e h1.tB (by decide)), h.lo, h.dc⟩, ⟨rfl, rfl, rfl⟩, by have := hb.size; simpa using this, fun b hb' hn => (Below.heap_setCell W1 ⟨K.B, 6, none⟩ lv' b fun e => hn (.inl e)).trans (hb.block b hb'), fun b hb => .inl hb⟩
end
end Go.Proofs.YtncnojgemmcplaaGreatDoor.St

namespace Go.Proofs.YtncnojgemmcplaaGreatDoor.St.Dc
open Go.RowKit

section
variable {w0 W W' W1 : World} {K : DoK} {S : Sto}
theorem rest_row {B o : Nat} {row : Option Nat} {v' : Value} (hg : W.grownBy W1 row) : ∀ b, b < W.heap.size → b ≠ B → row ≠ some b → (W1.setCell ⟨B, o, none⟩ v').heap[b]? = W.heap[b]? := fun b hb h1 h2 =>
  (Below.heap_setCell W1 ⟨B, o, none⟩ v' b h1).trans (hg.block b hb fun e => h2 e.symm)
theorem own_ne {base t size n : Nat} {v' : Value} {xs : List Value} (hr : W1.ownsRow base t size v' n xs) {b x : Nat} (hb : tagD W1.heap[b]? = x) (hx : x ≠ t + 1) : v'.ownBlock ≠ some b := fun e => hx (hb.symm.trans (own_tagD hr e))
/-- Mails. -/
theorem DoR.mail (h : DoR w0 W K S) {L' : List Md} {v' : Value} (hg : W.grownBy W1 K.vm.ownBlock) (hr : W1.ownsRow w0.heap.size 140 3 v' L'.length (mdCs L')) :
    DoR w0 (W1.setCell ⟨K.B, 7, none⟩ v') { K with vm := v', L := L' } S ∧ DFr K S.k W (W1.setCell ⟨K.B, 7, none⟩ v') { K with vm := v', L := L' } := by
  have hB := h.facts .B trivial
  have eB : W1.heap[K.B]? = W.heap[K.B]? := hg.block _ h.ltB fun e => h.apart (p := .vm) (q := .B) trivial trivial (fun e => by cases e) (b := K.B) e.symm rfl
  have hne : v'.ownBlock ≠ some K.B := own_ne hr (x := 59) (by rw [eB, hB.1]; rfl) (by decide)
  refine h.turn (S' := S) rfl (fun p => p = .B ∨ p = .vm) ((h.bel.grown hg h.bel.size fun b hb => ((h.facts .vm trivial).blk hb).1).setCell (p := ⟨K.B, 7, none⟩) hB.2 _) (by have := hg.size; simpa using this) (fun b hb hn => rest_row hg b hb (fun e => hn .B (.inl rfl) trivial (by rw [e]; rfl)) (fun e => hn .vm (.inr rfl) trivial e)) (fun p hq _ => ?_) (fun p hq _ => ?_) (fun i hq => ?_) (fun i j hq => ?_) ⟨rfl, rfl, rfl⟩ ⟨rfl, rfl, rfl⟩
  · rcases hq with rfl | rfl
    · exact ⟨heap_setCell_same W1 K.B 7 _ 58 _ (eB.trans hB.1), hB.2⟩
    · exact ownsRow_same hr fun b hb => Below.heap_setCell W1 ⟨K.B, 7, none⟩ v' b fun e => hne (by rw [hb, e])
  · cases p <;> first | exact absurd (Or.inl rfl) hq | exact absurd (Or.inr rfl) hq | exact ⟨rfl, id⟩
  · rcases hq with e | e <;> cases e
  · rcases hq with e | e <;> cases e
/-- Letters. -/
theorem DoR.letter (h : DoR w0 W K S) {l' : List Ltr} {v' : Value} (hg : W.grownBy W1 K.vl.ownBlock) (hr : W1.ownsRow w0.heap.size 144 7 v' l'.length (ltCs l')) :
    DoR w0 (W1.setCell ⟨K.B, 8, none⟩ v') { K with vl := v', lt := l' } S ∧ DFr K S.k W (W1.setCell ⟨K.B, 8, none⟩ v') { K with vl := v', lt := l' } := by
  have hB := h.facts .B trivial
  have eB : W1.heap[K.B]? = W.heap[K.B]? := hg.block _ h.ltB fun e => h.apart (p := .vl) (q := .B) trivial trivial (fun e => by cases e) (b := K.B) e.symm rfl
  have hne : v'.ownBlock ≠ some K.B := own_ne hr (x := 59) (by rw [eB, hB.1]; rfl) (by decide)
  refine h.turn (S' := S) rfl (fun p => p = .B ∨ p = .vl) ((h.bel.grown hg h.bel.size fun b hb => ((h.facts .vl trivial).blk hb).1).setCell (p := ⟨K.B, 8, none⟩) hB.2 _) (by have := hg.size; simpa using this) (fun b hb hn => rest_row hg b hb (fun e => hn .B (.inl rfl) trivial (by rw [e]; rfl)) (fun e => hn .vl (.inr rfl) trivial e)) (fun p hq _ => ?_) (fun p hq _ => ?_) (fun i hq => ?_) (fun i j hq => ?_) ⟨rfl, rfl, rfl⟩ ⟨rfl, rfl, rfl⟩
  · rcases hq with rfl | rfl
    · exact ⟨heap_setCell_same W1 K.B 8 _ 58 _ (eB.trans hB.1), hB.2⟩
    · exact ownsRow_same hr fun b hb => Below.heap_setCell W1 ⟨K.B, 8, none⟩ v' b fun e => hne (by rw [hb, e])
  · cases p <;> first | exact absurd (Or.inl rfl) hq | exact absurd (Or.inr rfl) hq | exact ⟨rfl, id⟩
  · rcases hq with e | e <;> cases e
  · rcases hq with e | e <;> cases e
/-- What is seen, and how new it is: one behind the other. -/
theorem DoR.see (h : DoR w0 W K S) {e : Sn} {v1 v2 : Value} {W2 : World} (hg : W.grownBy W1 K.ve.ownBlock) (hr : W1.ownsRow w0.heap.size 110 7 v1 (S.seen ++ [e]).length (snCs (S.seen ++ [e]))) (hg2 : (W1.setCell ⟨K.B, 11, none⟩ v1).grownBy W2 K.vs.ownBlock) (hr2 : W2.ownsRow w0.heap.size 61 2 v2 ((S.seen ++ [e]).map Sn.at_).length (spCs ((S.seen ++ [e]).map Sn.at_))) :
    DoR w0 (W2.setCell ⟨K.B, 12, none⟩ v2) { K with ve := v1, vs := v2 } { S with seen := S.seen ++ [e] } ∧ DFr K S.k W (W2.setCell ⟨K.B, 12, none⟩ v2) { K with ve := v1, vs := v2 } := by
  have hB := h.facts .B trivial
  have eB1 : W1.heap[K.B]? = W.heap[K.B]? := hg.block _ h.ltB fun e => h.apart (p := .ve) (q := .B) trivial trivial (fun e => by cases e) (b := K.B) e.symm rfl
  have hne1 : v1.ownBlock ≠ some K.B := own_ne hr (x := 59) (by rw [eB1, hB.1]; rfl) (by decide)
  have hB1 : (W1.setCell ⟨K.B, 11, none⟩ v1).heap[K.B]? = some (doO { K with ve := v1 } S) := heap_setCell_same W1 K.B 11 _ 58 _ (eB1.trans hB.1)
  have hs1 : (W1.setCell ⟨K.B, 11, none⟩ v1).heap.size = W1.heap.size := by simp
  have hsz : W.heap.size ≤ W2.heap.size := by have := hg.size; have := hg2.size; omega
  have nvs : K.vs.ownBlock ≠ some K.B := fun e => h.apart (p := .vs) (q := .B) trivial trivial (fun e => by cases e) (b := K.B) e rfl
  have eB2 : W2.heap[K.B]? = some (doO { K with ve := v1 } S) := (hg2.block _ (by have := h.ltB; have := hg.size; omega) fun e => nvs e.symm).trans hB1
  have hne2 : v2.ownBlock ≠ some K.B := own_ne hr2 (x := 59) (by rw [eB2]; rfl) (by decide)
  have hro : ∀ b, b < W.heap.size → b ≠ K.B → K.ve.ownBlock ≠ some b → K.vs.ownBlock ≠ some b → (W2.setCell ⟨K.B, 12, none⟩ v2).heap[b]? = W.heap[b]? := fun b hb h1 h2 h3 =>
    (rest_row (W := W1.setCell ⟨K.B, 11, none⟩ v1) hg2 b (by have := hg.size; omega) h1 h3).trans (rest_row hg b hb h1 h2)
  have b1 : Below w0.heap.size w0 (W1.setCell ⟨K.B, 11, none⟩ v1) := (h.bel.grown hg h.bel.size fun b hb => ((h.facts .ve trivial).blk hb).1).setCell (p := ⟨K.B, 11, none⟩) hB.2 _
  refine h.turn (S' := { S with seen := S.seen ++ [e] }) rfl (fun p => p = .B ∨ p = .ve ∨ p = .vs) ((b1.grown hg2 b1.size fun b hb => ((h.facts .vs trivial).blk hb).1).setCell (p := ⟨K.B, 12, none⟩) hB.2 _) (by simpa using hsz) (fun b hb hn => hro b hb (fun e => hn .B (.inl rfl) trivial (by rw [e]; rfl)) (fun e => hn .ve (.inr (.inl rfl)) trivial e) (fun e => hn .vs (.inr (.inr rfl)) trivial e)) (fun p hq _ => ?_) (fun p hq _ => ?_) (fun i hq => ?_) (fun i j hq => ?_) ⟨rfl, rfl, rfl⟩ ⟨rfl, rfl, rfl⟩
  · rcases hq with rfl | rfl | rfl
    · exact ⟨heap_setCell_same W2 K.B 12 _ 58 _ eB2, hB.2⟩
    · refine ownsRow_same hr fun b hb => ?_
      have hbB : b ≠ K.B := fun e => hne1 (by rw [hb, e])
      have hlt : b < (W1.setCell ⟨K.B, 11, none⟩ v1).heap.size := by rw [hs1]; exact (ownsRow_block hr b hb).2.1
      have ht : tagD W1.heap[b]? = 111 := own_tagD hr hb
      refine (rest_row (W := W1.setCell ⟨K.B, 11, none⟩ v1) hg2 b hlt hbB fun e => ?_).trans (Below.heap_setCell W1 ⟨K.B, 11, none⟩ v1 b hbB)
      have h1 := ((h.facts .vs trivial).blk e)
      have h2 : W1.heap[b]? = W.heap[b]? := hg.block b h1.2.1 fun e2 => h.apart (p := .ve) (q := .vs) trivial trivial (fun e => by cases e) (b := b) e2.symm e
      rw [h2, h1.2.2] at ht
      exact absurd ht (by decide)
    · exact ownsRow_same hr2 fun b hb => Below.heap_setCell W2 ⟨K.B, 12, none⟩ v2 b fun e => hne2 (by rw [hb, e])
  · cases p <;> first | exact absurd (Or.inl rfl) hq | exact absurd (Or.inr (Or.inl rfl)) hq | exact absurd (Or.inr (Or.inr rfl)) hq | exact ⟨rfl, id⟩
  · rcases hq with e | e | e <;> cases e
  · rcases hq with e | e | e <;> cases e
/-- A client. -/
theorem DoR.setC (h : DoR w0 W K S) {i : Nat} (hi : i < S.k) (hO : OnlyC W W' K.C (i * 11) 11 107) {x : Cl} {cv : Value} (hc : DcAt W' K.C (i * 11) x cv) (hv : (cv = K.cv i ∧ x.cnt = (S.cl i).cnt) ∨ (cv = .slice none 0 0 ∧ x.cnt = [])) :
    DoR w0 W' { K with cv := updP K.cv i cv } { S with cl := updC S.cl i x } ∧ DFr K S.k W W' { K with cv := updP K.cv i cv } := by
  obtain ⟨hcb, hcx, hlo⟩ := h.facts .C trivial
  have hnc : ∀ j, j < S.k → ∀ b, (K.cv j).ownBlock = some b → b ≠ K.C := fun j hj b hb e => h.apart (p := .cv j) (q := .C) hj trivial (fun e => by cases e) (b := b) hb (by rw [e]; rfl)
  have hcv : ∀ j : Nat, j < S.k → j ≠ i → updP K.cv i cv j = K.cv j ∧ updC S.cl i x (j : Int) = S.cl j := fun j _ e => ⟨updP_ne _ _ e, updC_ne _ _ (by omega)⟩
  refine h.turn (S' := { S with cl := updC S.cl i x }) rfl (fun p => p = .C ∨ p = .cv i) ⟨hO.os.trans h.bel.os, hO.tape.trans h.bel.tape, hO.output.trans h.bel.output, by rw [hO.size]; exact h.bel.size, fun b hb => (hO.rest b (by omega)).trans (h.bel.block b hb)⟩ (by rw [hO.size]; exact Nat.le_refl _) (fun b hb hn => hO.rest b fun e => hn .C (.inl rfl) trivial (by rw [e]; rfl)) (fun p hq hp => ?_) (fun p hq hp => ?_) (fun j hq hj b hb => ?_) (fun a b hq hq' => ?_) ⟨rfl, rfl, rfl⟩ ⟨rfl, rfl, rfl⟩
  · rcases hq with rfl | rfl
    · refine ⟨hO.blk, fun j hj => ?_, hlo⟩
      show DcAt W' K.C (j * 11) (updC S.cl i x j) (updP K.cv i cv j)
      by_cases e : j = i
      · subst e; rw [updP_same, updC_same]; exact hc
      · rw [(hcv j hj e).1, (hcv j hj e).2]
        exact (hcx j hj).cells fun q h1 h2 => hO.cells q (by omega)
    · show World.ownsRow _ _ _ _ (updP K.cv i cv i) (updC S.cl i x i).cnt.length (intC (updC S.cl i x i).cnt)
      rw [updP_same, updC_same]
      rcases hv with ⟨e1, e2⟩ | ⟨e1, e2⟩
      · rw [e1, e2]; exact ownsRow_same (h.facts (.cv i) hi) fun b hb => hO.rest b (hnc i hi b hb)
      · rw [e1, e2]; exact ⟨rfl, .inl ⟨rfl, rfl⟩⟩
  · cases p with
    | C => exact absurd (Or.inl rfl) hq
    | cv j =>
      have e : j ≠ i := fun e => hq (.inr (by rw [e]))
      refine ⟨?_, fun hf => ?_⟩
      · show (updP K.cv i cv j).ownBlock = _
        rw [(hcv j hp e).1]; rfl
      · show World.ownsRow _ _ _ _ (updP K.cv i cv j) (updC S.cl i x j).cnt.length (intC (updC S.cl i x j).cnt)
        rw [(hcv j hp e).1, (hcv j hp e).2]
        exact hf
    | _ => exact ⟨rfl, id⟩
  · rcases hq with e | e
    · cases e
    · cases e
      have hb' : (updP K.cv i cv i).ownBlock = some b := hb
      rw [updP_same] at hb'
      rcases hv with ⟨e1, _⟩ | ⟨e1, _⟩
      · rw [e1] at hb'; exact .inl hb'
      · rw [e1] at hb'; cases hb'
  · rcases hq with e | e
    · cases e
    · rcases hq' with e' | e'
      · cases e'
      · cases e; cases e'; rfl
/-- Who was counted. -/
theorem DoR.pushC (h : DoR w0 W K S) {i : Nat} (hi : i < S.k) {y : Int} {v' : Value} (ho : W1.ownsRow w0.heap.size 3 1 v' ((S.cl i).cnt ++ [y]).length (intC ((S.cl i).cnt ++ [y]))) (hg : W.grownBy W1 (K.cv i).ownBlock) (hv : v'.ownBlock = (K.cv i).ownBlock ∨ v'.ownBlock = some W.heap.size) :
    DoR w0 (W1.setCell ⟨K.C, i * 11 + 10, none⟩ v') { K with cv := updP K.cv i v' } { S with cl := updC S.cl i { S.cl i with cnt := (S.cl i).cnt ++ [y] } } ∧ DFr K S.k W (W1.setCell ⟨K.C, i * 11 + 10, none⟩ v') { K with cv := updP K.cv i v' } := by
  obtain ⟨⟨cur, hcur⟩, hcx, hlo⟩ := h.facts .C trivial
  have hnc : ∀ j, j < S.k → ∀ b, (K.cv j).ownBlock = some b → b ≠ K.C := fun j hj b hb e => h.apart (p := .cv j) (q := .C) hj trivial (fun e => by cases e) (b := b) hb (by rw [e]; rfl)
  have hcv : ∀ j : Nat, j < S.k → j ≠ i → updP K.cv i v' j = K.cv j ∧ updC S.cl i { S.cl i with cnt := (S.cl i).cnt ++ [y] } (j : Int) = S.cl j := fun j _ e => ⟨updP_ne _ _ e, updC_ne _ _ (by omega)⟩
  have eC : W1.heap[K.C]? = W.heap[K.C]? := hg.block _ h.ltC fun e => hnc i hi K.C e.symm rfl
  obtain ⟨cur', hcur', _⟩ := heap_setCell (eC.trans hcur) (i * 11 + 10) v'
  have hne : v'.ownBlock ≠ some K.C := own_ne ho (x := 108) (by rw [eC, hcur]; rfl) (by decide)
  have hc1 : ∀ j, j ≠ i * 11 + 10 → (W1.setCell ⟨K.C, i * 11 + 10, none⟩ v').cell? ⟨K.C, j, none⟩ = W.cell? ⟨K.C, j, none⟩ := fun j hj => (World.cell?_setCell_other _ _ _ _ (offNe (Ne.symm hj))).trans (World.cell?_of_block (a := ⟨K.C, j, none⟩) eC)
  refine h.turn (S' := { S with cl := updC S.cl i { S.cl i with cnt := (S.cl i).cnt ++ [y] } }) rfl (fun p => p = .C ∨ p = .cv i) ((h.bel.grown hg h.bel.size fun b hb => ((h.facts (.cv i) hi).blk hb).1).setCell (p := ⟨K.C, i * 11 + 10, none⟩) hlo _) (by have := hg.size; simpa using this) (fun b hb hn => rest_row hg b hb (fun e => hn .C (.inl rfl) trivial (by rw [e]; rfl)) (fun e => hn (.cv i) (.inr rfl) hi e)) (fun p hq hp => ?_) (fun p hq hp => ?_) (fun j hq hj b hb => ?_) (fun a b hq hq' => ?_) ⟨rfl, rfl, rfl⟩ ⟨rfl, rfl, rfl⟩
  · rcases hq with rfl | rfl
    · refine ⟨⟨cur', hcur'⟩, fun j hj => ?_, hlo⟩
      show DcAt _ K.C (j * 11) (updC S.cl i _ j) (updP K.cv i v' j)
      by_cases e : j = i
      · subst e
        rw [updP_same, updC_same]
        have hx := hcx j hj
        exact ⟨(hc1 _ (by omega)).trans hx.busy, (hc1 _ (by omega)).trans hx.gone, (hc1 _ (by omega)).trans hx.write, (hc1 _ (by omega)).trans hx.tells, (hc1 _ (by omega)).trans hx.key, (hc1 _ (by omega)).trans hx.value, (hc1 _ (by omega)).trans hx.rd, hx.kept.cells fun q h1 h2 => hc1 q (by omega), World.cell?_setCell_same' _ _ _ (by rw [World.cell?_of_block (a := ⟨K.C, j * 11 + 10, none⟩) eC, hx.cv]; rfl)⟩
      · rw [(hcv j hj e).1, (hcv j hj e).2]
        exact (hcx j hj).cells fun q h1 h2 => hc1 q (by omega)
    · show World.ownsRow _ _ _ _ (updP K.cv i v' i) (updC S.cl i _ i).cnt.length (intC (updC S.cl i _ i).cnt)
      rw [updP_same, updC_same]
      exact ownsRow_same ho fun b hb => Below.heap_setCell W1 ⟨K.C, i * 11 + 10, none⟩ v' b fun e => hne (by rw [hb, e])
  · cases p with
    | C => exact absurd (Or.inl rfl) hq
    | cv j =>
      have e : j ≠ i := fun e => hq (.inr (by rw [e]))
      refine ⟨?_, fun hf => ?_⟩
      · show (updP K.cv i v' j).ownBlock = _
        rw [(hcv j hp e).1]; rfl
      · show World.ownsRow _ _ _ _ (updP K.cv i v' j) (updC S.cl i _ j).cnt.length (intC (updC S.cl i _ j).cnt)
        rw [(hcv j hp e).1, (hcv j hp e).2]
        exact hf
    | _ => exact ⟨rfl, id⟩
  · rcases hq with e | e
    · cases e
    · cases e
      have hb' : (updP K.cv i v' i).ownBlock = some b := hb
      rw [updP_same] at hb'
      rcases hv with e | e
      · exact .inl (e.symm.trans hb')
      · rw [e] at hb'; exact .inr (by have := Option.some.inj hb'; omega)
  · rcases hq with e | e
    · cases e
    · rcases hq' with e' | e'
      · cases e'
      · cases e; cases e'; rfl
/-- What the nodes have. -/
theorem DoR.setM (h : DoR w0 W K S) {f' : Int → Int → Option Hd} (hm : MapK Tryz.prog 145 hdV W' K.M f') (hg : W.grownBy W' (some K.M)) : DoR w0 W' { K with f := f' } S ∧ DFr K S.k W W' { K with f := f' } := by
  obtain ⟨_, hlo⟩ := h.facts .M trivial
  refine h.turn (S' := S) rfl (fun p => p = .M) (h.bel.grown hg h.bel.size fun b hb => by cases hb; exact hlo) hg.size (fun b hb hn => hg.block b hb fun e => hn .M rfl trivial e.symm) (fun p hq _ => ?_) (fun p hq _ => ?_) (fun i hq => by cases hq) (fun i j hq => by cases hq) ⟨rfl, rfl, rfl⟩ ⟨rfl, rfl, rfl⟩
  · subst hq
    exact ⟨hm, hlo⟩
  · cases p <;> first | exact absurd rfl hq | exact ⟨rfl, id⟩
end
/-- What the document's own numbers and lists are against the store of chapter 17. -/
def ltr0 : Ltr := ⟨0, 0, 0, false, hd0⟩
def mlOf (lt : List Ltr) (m : Md) : Ml := ⟨m.fr, m.to, (lt[m.wh.toNat]?).getD ltr0⟩
structure DoPl (K : DoK) (S : Sto) : Prop where
  ms : S.mails = K.L.map (mlOf K.lt)
  wh : ∀ m, m ∈ K.L → 0 ≤ m.wh ∧ m.wh < K.lt.length
  hs : ∀ a b : Int, S.has a b = (K.f a b).getD hd0
  fw : ∀ a b : Int, (K.f a b).isSome = true → (0 ≤ a ∧ a < 7) ∧ 0 ≤ b ∧ b < 8
  lk : ∀ a b : Int, S.links a b = openL K.cut K.LM a b
/-- What a part of the document's store tells: it is another one. -/
def DoTold (c : Nat) (w0 : World) (K : DoK) (S : Sto) (W : World) (S' : Sto) (W' : World) : Prop := ∃ K', DoR w0 W' K' S' ∧ DoPl K' S' ∧ K'.lt.length ≤ K.lt.length + c ∧ DFr K S.k W W' K'
theorem DoPl.raw {K K' : DoK} {S S' : Sto} (h : DoPl K S) (h1 : K'.L = K.L ∧ K'.lt = K.lt ∧ K'.f = K.f ∧ K'.cut = K.cut ∧ K'.LM = K.LM) (h2 : S'.mails = S.mails ∧ S'.has = S.has ∧ S'.links = S.links) : DoPl K' S' := by
  obtain ⟨a1, a2, a3, a4, a5⟩ := h1
  obtain ⟨b1, b2, b3⟩ := h2
  exact ⟨by rw [b1, a1, a2]; exact h.ms, by rw [a1, a2]; exact h.wh, by rw [b2, a3]; exact h.hs, by rw [a3]; exact h.fw, by rw [b3, a4, a5]; exact h.lk⟩
end Go.Proofs.YtncnojgemmcplaaGreatDoor.St.Dc
