/-
  Run of package model: walked.
-/
import Derived.Test.YtndogemgjjgbgabDoorMapRZ
import Derived.Carry
namespace Go.Proofs.YtndogemgjjgbgabDoor
open Go.RowKit

/-- A list of ops in memory, to be read. -/
def HasOps (w : World) (v : Value) (l : List Opn) : Prop :=
  ∃ a cap, v = .slice a l.length cap ∧ l.length ≤ maxLen ∧ (l = [] ∨ ∃ b off, a = some ⟨b, off, none⟩ ∧ ∀ i, (hi : i < l.length) → OpAt w b (off + i * 8) l[i])

theorem OpAt.bel {w w' : World} {b off : Nat} {x : Opn} {n : Nat} (h : OpAt w b off x) (hb : Below n w w') (hn : b < n) : OpAt w' b off x := by
  obtain ⟨h0, h1, h2, h3, h4, h5, h6, h7⟩ := h
  exact ⟨(hb.cell hn).trans h0, (hb.cell hn).trans h1, (hb.cell hn).trans h2, (hb.cell hn).trans h3, (hb.cell hn).trans h4, (hb.cell hn).trans h5, (hb.cell hn).trans h6, (hb.cell hn).trans h7⟩
theorem HasOps.below {w w' : World} {v : Value} {l : List Opn} (h : HasOps w v l) (hb : Below w.heap.size w w') : HasOps w' v l := by
  obtain ⟨a, cap, rfl, hm, h⟩ := h
  refine ⟨a, cap, rfl, hm, ?_⟩
  rcases h with h | ⟨b, off, rfl, h⟩
  · exact .inl h
  · exact .inr ⟨b, off, rfl, fun i hi => (h i hi).bel hb (h i hi).lt⟩

set_option maxRecDepth 100000 in
set_option maxHeartbeats 2000000 in
theorem run_any (o : Int) (ops : List Opn) (ord : List Int) (u v : Value) (w : World) (hu : HasOps w u ops) (hv : HasInts w v ord) (hK : KnownAt w) (hpos : 0 < w.heap.size) (hlen : ord.length ≤ 60)
    (hkey : ∀ op ∈ ops, 0 ≤ op.k ∧ op.k < 8) :
    Calls Tryd.prog 20 #[.int .i64 o, u, v] w fun e w' => ∃ z, e = .returned (.int .i64 z) ∧ RunTold o ops ord z ∧ Below w.heap.size w w' := by
  obtain ⟨a, cap, rfl, hm, hops⟩ := hu
  obtain ⟨a', cap', rfl, _, _, _, hord⟩ := hv
  unfold maxLen at hm
  have HOP : Hid (∀ n, (hn : n < ops.length) → ∃ b off, a = some ⟨b, off, none⟩ ∧ ∀ wr, Below w.heap.size w wr → OpAt wr b (off + n * 8) ops[n]) := fun n hn => by
    obtain h | ⟨b, off, e, hc⟩ := hops
    · subst h; simp at hn
    · exact ⟨b, off, e, fun wr hW => (hc n hn).bel hW (hc n hn).lt⟩
  have HOR : Hid (∀ n, (hn : n < ord.length) → ∃ g off, a' = some ⟨g, off, none⟩ ∧ ∀ wr, Below w.heap.size w wr → wr.cell? ⟨g, off + n, none⟩ = some (.int .i64 ord[n])) := fun n hn => by
    obtain h | ⟨g, off, e, hc⟩ := hord
    · subst h; simp at hn
    · exact ⟨g, off, e, fun wr hW => (hW.cell (World.block_lt_of_cell? w _ (hc n hn))).trans (hc n hn)⟩
  have HK := hideIt hK
  have HKEY := hideIt hkey
  have HM := hideIt (states_made w o)
  have HB0 := hideIt (below_grown (World.grownBy_alloc w (.map #[] 0) none))
  have hmm := @run_makeMap Tryd.prog
  clear hops hord hK hkey
  go_enter Tryd.func20, Tryd.ntmps20
  go_wp2
  go_loopw [13] (fun i wr => ∃ k : Nat, k ≤ ord.length ∧ i = .int .i64 k ∧ (∀ j, j < k → fineAt o ops ord j = true) ∧ (∃ f, StatesAt wr w.heap.size k o (sAt o ops ord k) f) ∧ w.heap.size < wr.heap.size ∧ Below w.heap.size w wr) (fun i _ => ord.length - (intOf i).toNat)
  case atStart => exact ⟨0, by omega, rfl, fun j hj => by omega, ⟨_, HM.out⟩, by simp, HB0.out⟩
  case round =>
    obtain ⟨k, hk, rfl, hf, ⟨f, hs⟩, hsz, hb⟩ := hrel
    have HF := hideIt hf
    have HS := hideIt hs
    have HB := hideIt hb
    clear hf hs hb
    by_cases hkl : k < ord.length
    · obtain ⟨g, off, rfl, hc⟩ := HOR.out k hkl
      have hc := hc _ HB.out
      have k1 : (0 : Int) ≤ (k : Int) := by omega
      have k2 : (k : Int) < (ord.length : Int) := by omega
      have hwr : IntKind.i64.wrap ((k : Int) + 1) = (k : Int) + 1 := by rw [IntKind.wrap_i64]; omega
      obtain ⟨n, hn⟩ : ∃ n, ord[k] = n := ⟨_, rfl⟩
      rw [hn] at hc
      have HN : Hid ((ord[k]?) = some n) := by rw [← hn]; exact List.getElem?_eq_getElem hkl
      clear hn
      by_cases h1 : n < 0
      · have HE : Hid (RunTold o ops ord k) := .inl ⟨k, hkl, HF.out, fineAt_none (by rw [HN.out]; exact opOf_neg h1), rfl⟩
        go_wp2
        go_ret
        exact ⟨_, rfl, HE.out, HB.out⟩
      · by_cases h2 : (ops.length : Int) ≤ n
        · have HE : Hid (RunTold o ops ord k) := .inl ⟨k, hkl, HF.out, fineAt_none (by rw [HN.out]; exact opOf_beyond h2), rfl⟩
          go_wp2
          go_ret
          exact ⟨_, rfl, HE.out, HB.out⟩
        · obtain ⟨m, rfl⟩ : ∃ m : Nat, n = m := ⟨n.toNat, by omega⟩
          have hml : m < ops.length := by omega
          obtain ⟨b, offo, rfl, hop⟩ := HOP.out m hml
          obtain ⟨d0, d1, d2, d3, d4, d5, d6, d7⟩ := hop _ HB.out
          obtain ⟨op, hop⟩ : ∃ op, ops[m] = op := ⟨_, rfl⟩
          rw [hop] at d0 d1 d2 d3 d4 d5 d6 d7
          have hbind : (ord[k]?).bind (opOf ops) = some op := by rw [HN.out, ← hop]; exact opOf_at hml
          have hkk := HKEY.out op (by rw [← hop]; exact List.getElem_mem hml)
          have HC := hideIt (runOne_any o op w.heap.size k (sAt o ops ord k) f wr HS.out (by omega) hkk.1 hkk.2 hpos hsz (HK.out.below hpos HB.out) (fun e => by subst e; exact (sAt_rises ops ord k op.k).imp fun h => Int.le_of_lt h) (by have := sAt_len o ops ord k op.k; omega))
          have HBI := hideIt hbind
          clear hbind hkk hop
          have k3 : (0 : Int) ≤ (m : Int) := by omega
          have k4 : (m : Int) < (ops.length : Int) := by omega
          have k5 : decide ((m : Int) < 0) = false := by simp
          have k6 : decide ((ops.length : Int) ≤ (m : Int)) = false := by simp; omega
          unfold Opn.agg at HC
          clear h1 h2
          go_wp2_with fail
          refine HC.out.mono ?_
          rintro e w1 ⟨rfl, hb1, hs1⟩
          have HB1 := hideIt (HB.out.trans hb1)
          have hsz1 : w.heap.size < w1.heap.size := Nat.lt_of_lt_of_le hsz hb1.size
          have HS1 := hideIt hs1
          clear hb1 hs1
          cases hfi : opFine o (sAt o ops ord k) op
          · have HE : Hid (RunTold o ops ord k) := .inl ⟨k, hkl, HF.out, by rw [fineAt_some HBI.out]; exact hfi, rfl⟩
            go_wp2
            go_ret
            exact ⟨_, rfl, HE.out, HB1.out⟩
          · have HE := hideIt (HS1.out hfi)
            go_wp2
            go_roundw
            case rel =>
              refine ⟨k + 1, by omega, by go_num, fun j hj => ?_, by rw [sAt_succ HBI.out]; exact HE.out, hsz1, HB1.out⟩
              by_cases e : j < k
              · exact HF.out j e
              · obtain rfl : j = k := by omega
                rw [fineAt_some HBI.out]; exact hfi
            case measure => simp [intOf]; omega
    · have HE : Hid (RunTold o ops ord (-1)) := .inr ⟨fun j hj => HF.out j (by omega), rfl⟩
      go_wp2
      go_ret
      exact ⟨_, rfl, HE.out, HB.out⟩

end Go.Proofs.YtndogemgjjgbgabDoor
