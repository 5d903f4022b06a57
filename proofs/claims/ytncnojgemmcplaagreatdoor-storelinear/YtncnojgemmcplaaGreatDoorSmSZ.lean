/-
  Chapter 17: how much is seen of the program's store at most (plain).
  What is seen of a store whose quorums meet, and whose readers tell, can have taken place one by one (plain).
-/
import Derived.Test.YtncnojgemmcplaaGreatDoorSmPZ
import Derived.Test.YtncnojgemmcplaaGreatDoorAbY
import Derived.Test.YtncnojgemmcplaaGreatDoorAbZ
import Derived.Test.YtncnojgemmcplaaGreatDoorVerdictWZ
namespace Go.Proofs.YtncnojgemmcplaaGreatDoor.St

theorem Sim.toS {P : Pst} {S : Sto} (h : Sim P S) : ToS S := fun x hx => by
  obtain ⟨i, hi⟩ := List.mem_iff_getElem?.1 hx
  rcases h.pair i with ⟨_, e⟩ | ⟨m, y, _, e, h1, h2, _⟩
  · rw [e] at hi; cases hi
  · rw [e] at hi
    cases hi
    rw [h1.tt, h.n, h.k]
    exact h2.tt.2
theorem Sim.roomR : ∀ (l : List Mvs) {P : Pst} {S : Sto}, Sim P S → RoomS S → RoomS (runS S l)
  | [], _, _, _, hr => hr
  | m :: l, _, _, h, hr => Sim.roomR l (h.play m).2 (hr.play h.toS m)
/-- Whatever was played: of at most 120 events. -/
theorem run_told2 {n k ask tell : Nat} (back : Bool) (h1 : 1 ≤ n) (hk : k ≤ 8) (h2 : 1 ≤ ask) (h3 : 1 ≤ tell) (h4 : tell ≤ n) (h5 : n < ask + tell) (l : List Mvs) : ∃ S, Sim (runP (pst0 n k ask tell back) l) S ∧ SAll S ∧ S.back = back ∧ S.seen.length ≤ 120 := by
  refine ⟨runS (sto0 n k ask tell back) l, (sim0 back h1 h2 h3).run l, ?_⟩
  obtain ⟨a, b⟩ := (sall0 (k := k) back h2 h3 h4 h5).run l (S := sto0 n k ask tell back) hk
  refine ⟨a, b.2.2.2.2, ?_⟩
  have h0 : RoomS (sto0 n k ask tell back) := by
    have : busyN (sto0 n k ask tell back) = 0 := by
      unfold busyN
      exact List.countP_eq_zero.2 fun j _ => by simp [sto0, cl0]
    unfold RoomS
    rw [this]
    show 0 + 0 ≤ 120
    omega
  have := Sim.roomR l (sim0 back h1 h2 h3) h0
  unfold RoomS at this
  omega
end Go.Proofs.YtncnojgemmcplaaGreatDoor.St

namespace Go.Proofs.YtncnojgemmcplaaGreatDoor

def toEv (e : St.Evp) : Ev := ⟨e.p, e.t, e.k, e.d, e.a, e.b, e.r⟩
theorem sim_evs {P : St.Pst} {S : Sto} (h : St.Sim P S) : P.evs.map toEv = S.seen.map evS := by
  rw [h.ev.1, List.map_map]
  rfl
theorem abd_kinds {S : Sto} (h : SAll S) {L : List Opn} (hL : OpsOf (histS S) L) : ∀ x ∈ L, x.d = 1 ∨ x.d = 2 := by
  obtain ⟨G, h1, h2⟩ := h
  have hI : Inv (S.seen.map evS) S.seen.length (histS S) := inv_hist _ _ (by simp) h2.fine
  obtain ⟨qs, _, hqs, hperm, _⟩ := hL
  intro x hx
  rcases List.mem_append.1 (hperm.mem_iff.1 hx) with hx | hx
  · exact h2.kinds x hx
  · obtain ⟨p, hp⟩ := mem_pending hx
    cases hbz : (S.cl p).busy with
    | false => rw [h2.idle p hbz] at hp; cases hp
    | true =>
      rw [h2.busy p hbz] at hp
      obtain rfl := Option.some.inj hp
      cases hw : (S.cl p).write <;> simp [opC, hw]
theorem shows_nat {o : Int} {ops : List Opn} {ord : List Int} (h : ShowsM o ops ord) : ∃ l, ord = iL l := by
  refine ⟨ord.map Int.toNat, ?_⟩
  unfold iL
  rw [List.map_map]
  conv => lhs; rw [← List.map_id ord]
  apply List.map_congr_left
  intro x hx
  have := (h.range x hx).1
  simp; omega
theorem shows_not_invalid {o : Int} {ops : List Opn} {ord : List Int} {bud : Nat} (ht : Told ops 0) (h : ShowsM o ops ord) : (searchM (srB o ops bud)).code ≠ 2 := by
  obtain ⟨l, rfl⟩ := shows_nat h
  intro hc
  exact search_dead (own_srB (told_keysN ht)) hc (shows_comp (c := srB o ops bud) h (fun _ _ _ _ _ h => h))
/-- ATTIYA, BAR-NOY, DOLEV, of the program's store. -/
theorem linear_core {P : St.Pst} {S : Sto} (h : St.Sim P S) (hA : SAll S) (hb : S.back = true) (hl : S.seen.length ≤ 120) {L : List Opn} (hL : OpsOf (hist (P.evs.map toEv) (P.evs.map toEv).length) L) (h40 : L.length ≤ 40) :
    LcTold 1 20000 L 0 ∧ (searchM (srB 1 L 20000)).code ≠ 2 := by
  have e : (P.evs.map toEv).length = S.seen.length := by rw [sim_evs h]; simp
  rw [e, sim_evs h] at hL
  have hf : FineH (S.seen.map evS) S.seen.length := by
    obtain ⟨G, _, h2⟩ := hA
    exact h2.fine
  have hI : Inv (S.seen.map evS) S.seen.length (hist (S.seen.map evS) S.seen.length) := inv_hist _ _ (by simp) hf
  have ht : Told L 0 := told0 L h40 fun j hj => opsOf_fine hI (by omega) hL j hj
  have hk := abd_kinds hA hL
  obtain ⟨ord, hs⟩ := abd_shows hA hb hL
  refine ⟨.inr (.inr ⟨by decide, by decide, by decide, .inr (.inr ⟨ht, ?_, rfl⟩)⟩), shows_not_invalid ht hs⟩
  rw [List.any_eq_false]
  intro x hx
  rcases hk x hx with hd | hd <;> rw [hd] <;> decide
theorem evs_fine {P : St.Pst} {S : Sto} (h : St.Sim P S) (hA : SAll S) : FineH (P.evs.map toEv) (P.evs.map toEv).length := by
  have e : (P.evs.map toEv).length = S.seen.length := by rw [sim_evs h]; simp
  rw [e, sim_evs h]
  obtain ⟨G, _, h2⟩ := hA
  exact h2.fine
end Go.Proofs.YtncnojgemmcplaaGreatDoor
