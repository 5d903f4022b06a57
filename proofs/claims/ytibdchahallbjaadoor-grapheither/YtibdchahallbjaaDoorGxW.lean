/-
  The document's index, walked; a row of one's own cut short; all of a row put behind an empty one.
-/
import Derived.Test.YtibdchahallbjaaDoorGlW
namespace Go.Proofs.YtibdchahallbjaaDoor
open Go.RowKit

set_option maxRecDepth 100000 in
set_option maxHeartbeats 1000000 in
theorem index_any (xs : List Int) (hn : xs.length ≤ 100) (x : Int) (v : Value) (w : World) (h : HasI w v xs) :
    Calls Tryd.prog 35 #[v, .int .i64 x] w fun e w' => ∃ r : Int, e = .returned (.int .i64 r) ∧ (decide (r < 0) = !xs.contains x) ∧ w' = w := by
  obtain ⟨a, cap, rfl, hc, hr⟩ := h
  have HR := hideIt hr
  clear hr
  go_enter Tryd.func35, Tryd.ntmps35
  go_wp2
  go_loopw [9] (fun v wr => ∃ k : Nat, k ≤ xs.length ∧ v = .int .i64 k ∧ (∀ j (h : j < xs.length), j < k → xs[j] ≠ x) ∧ wr = w) (fun v _ => xs.length - (intOf v).toNat)
  case atStart => exact ⟨0, Nat.zero_le _, rfl, fun j _ hj => absurd hj (by omega), rfl⟩
  case round =>
    obtain ⟨k, hk, rfl, ha, rfl⟩ := hrel
    have HA := hideIt ha
    clear ha
    by_cases hkn : k < xs.length
    · obtain ⟨g, off, rfl, c0⟩ := HR.out k hkn
      have hkn' : (k : Int) < xs.length := by omega
      by_cases e : xs[k] = x
      · have HF : Hid (decide ((k : Int) < 0) = !xs.contains x) := by
          have : xs.contains x = true := by rw [List.contains_iff_mem, ← e]; exact List.getElem_mem hkn
          show _ = _
          rw [this]; simp
        rw [e] at c0
        clear e
        have he : (x == x) = true := by simp
        go_wp2
        go_ret
        exact ⟨_, rfl, HF.out, rfl⟩
      · have R1 : Hid (∀ j (h : j < xs.length), j < k + 1 → xs[j] ≠ x) := fun j h hj => by
          by_cases e' : j = k
          · subst e'; exact e
          · exact HA.out j h (by omega)
        generalize xs[k] = y at c0 e
        have he : (y == x) = false := by simp [e]
        clear e
        go_wp2
        go_roundw
        case rel => exact ⟨k + 1, by omega, by go_num, R1.out, trivial⟩
        case measure => simp [intOf]; omega
    · have HF : Hid (decide ((-1 : Int) < 0) = !xs.contains x) := by
        have : xs.contains x = false := by
          cases h : xs.contains x
          · rfl
          · obtain ⟨j, hj, e⟩ := List.getElem_of_mem (List.contains_iff_mem.1 h)
            exact absurd e (HA.out j hj (by omega))
        show _ = _
        rw [this]; rfl
      obtain rfl : k = xs.length := by omega
      go_wp2
      go_ret
      exact ⟨_, rfl, HF.out, rfl⟩

theorem RowAt.short {w : World} {base : Nat} {a : Option Addr} {len cap : Nat} {st : List Int} {x : Int} (h : RowAt w base (.slice a len cap) (st ++ [x])) : RowAt w base (.slice a st.length cap) st := by
  rcases h with ⟨_, h⟩ | ⟨g, off, cap', cur, e, h0, hh, h1, h2, h4, h5⟩
  · simp at h
  · injection e with e1 e2 e3
    subst e1 e3
    refine .inr ⟨g, off, cap, cur, rfl, h0, hh, by simp at h1; omega, h2, h4, fun j hj => ?_⟩
    have := h5 j (by simp; omega)
    rwa [List.getElem_append_left hj] at this
theorem natI_len (L : List Nat) : (natI L).length = L.length := by simp [natI]
theorem natI_mem {L : List Nat} {k : Nat} : (natI L).contains (k : Int) = memB L k := by
  unfold natI memB
  rw [Bool.eq_iff_iff, List.contains_iff_mem, List.contains_iff_mem, List.mem_map]
  constructor
  · rintro ⟨q, hq, e⟩
    rwa [← Int.ofNat.inj e]
  · exact fun h => ⟨k, h, rfl⟩
theorem natI_at {L : List Nat} {j : Nat} (h : j < L.length) : (natI L)[j]'(by rw [natI_len]; exact h) = (L[j] : Int) := by simp [natI]
/-- All of a row behind an empty one. -/
theorem wpList_append_all {w : World} {ops : Array Oper} {rest : List Oper} {o : Oper} {a : Act} {Q : Exit → Act → World → Prop} (hgd : o.guard = none) (s x : Operand)
    (ho : o.op = .call { callee := .builtin .append, args := #[s, x], argTypes := #[26, 26] })
    (E : Addr) (hs : a.eval s = .slice (some E) 0 0) (st : List Int) (hst : 0 < st.length) (hlen : st.length ≤ 1000)
    (B off c : Nat) (hx : a.eval x = .slice (some ⟨B, off, none⟩) st.length c) (hc : ∀ j (h : j < st.length), w.cell? ⟨B, off + j, none⟩ = some (.int .i64 st[j]))
    (h : ∀ v' w', RowAt w' w.heap.size v' st → w.grownBy w' none → wpList Tryd.prog ops Q rest (a.put o.dst v') w') : wpList Tryd.prog ops Q (o :: rest) a w := by
  obtain ⟨i, hi, hz, hsz, hby⟩ := info_parts' info3
  refine wpList_append_grows w hgd s x 26 ho 3 i _ 1 8 Tryd.underlying26 hi hz hsz hby rfl (by decide) (some E) 0 0 [] hs (fun e => by cases e) rfl (fun b hb j u hu => by simp at hu) ⟨B, off, none⟩ st.length c (st.map (Value.int .i64)) hx (by simp) (fun j u hu => ?_) (fun u hu => ?_) (by omega) (by unfold maxLen; omega) (by omega) ?_
  · rw [List.getElem?_map] at hu
    obtain ⟨y, hy, rfl⟩ := Option.map_eq_some_iff.1 hu
    obtain ⟨hj, e⟩ := List.getElem?_eq_some_iff.1 hy
    rw [Addr.add_mid, hc j hj, e]
  · obtain ⟨y, _, rfl⟩ := List.mem_map.1 hu
    rfl
  · intro v' w' ho' hg
    refine h v' w' (rowAt_owns ?_) hg
    simpa using ho'
end Go.Proofs.YtibdchahallbjaaDoor
