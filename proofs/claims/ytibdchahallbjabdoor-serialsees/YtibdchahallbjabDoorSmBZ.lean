/-
  Two matrices held against each other.
  Two rows of numbers held against each other.
  The document's Closed and Groups, walked.
  The document's index, walked; a row of one's own cut short; all of a row put behind an empty one.
  Rows of one's own: small facts; an append in a drawn region by the run's equation.
-/
import Derived.Test.YtibdchahallbjabDoorMatPZ
import Derived.Test.YtibdchahallbjabDoorGoW
import Derived.Deep.RegionLaw
namespace Go.Proofs.YtibdchahallbjabDoor
open Go.RowKit

/-- A matrix, read. -/
def ReadM (w : World) (v : Value) (n : Nat) (A : Nat → Nat → Bool) : Prop :=
  ∃ a cap, v = .slice a n cap ∧ n ≤ cap ∧ ∀ i, i < n → ∃ g off r, a = some ⟨g, off, none⟩ ∧ w.cell? ⟨g, off + i, none⟩ = some (.slice (some ⟨r, 0, none⟩) n n) ∧ ∀ k, k < n → w.cell? ⟨r, k, none⟩ = some (.bool (A i k))
theorem readM_nil (w : World) (A : Nat → Nat → Bool) : ReadM w (.slice none 0 0) 0 A := ⟨none, 0, rfl, Nat.le_refl _, fun i hi => absurd hi (by omega)⟩
theorem MatAt.readM {w : World} {base B n : Nat} {rb : Nat → Nat} {M : Nat → Nat → Bool} (h : MatAt w base B n n rb M) : ReadM w (.slice (some ⟨B, 0, none⟩) n n) n M :=
  ⟨_, n, rfl, Nat.le_refl _, fun i hi => ⟨B, 0, rb i, rfl, by rw [Nat.zero_add]; exact h.head i hi, fun k hk => (h.row i hi).bit k hk⟩⟩
theorem OutAt.readM {w : World} {base n : Nat} {v : Value} {gs : List Nat} {A : Nat → Nat → Bool} (h : OutAt w base n v gs A) (hg : gs.length = n) : ReadM w v n A := by
  by_cases h0 : 0 < gs.length
  · obtain ⟨g, off, cap, e, hc, hr⟩ := h.read h0
    rw [hg] at e hc
    exact ⟨_, cap, e, hc, fun i hi => ⟨g, off, gs[i]'(by omega), rfl, (hr i (by omega)).1, (hr i (by omega)).2⟩⟩
  · obtain rfl : gs = [] := List.length_eq_zero_iff.1 (by omega)
    rcases h.row with ⟨rfl, _⟩ | ⟨g, off, cap, cur, rfl, _⟩
    · rw [← hg]; exact readM_nil w A
    · rw [← hg]; exact ⟨_, cap, rfl, Nat.zero_le _, fun i hi => absurd hi (by simp)⟩

end Go.Proofs.YtibdchahallbjabDoor

namespace Go.Proofs.YtibdchahallbjabDoor
open Go.RowKit

/-- A row of numbers, read. -/
def HasI (w : World) (v : Value) (xs : List Int) : Prop := ∃ a cap, v = .slice a xs.length cap ∧ xs.length ≤ cap ∧ ∀ i (h : i < xs.length), ∃ g off, a = some ⟨g, off, none⟩ ∧ w.cell? ⟨g, off + i, none⟩ = some (.int .i64 xs[i])
theorem hasI_nil (w : World) : HasI w (.slice none 0 0) [] := ⟨none, 0, rfl, Nat.le_refl _, fun i hi => absurd hi (by simp)⟩
theorem HasI.below {w w' : World} {v : Value} {xs : List Int} (h : HasI w v xs) (hb : Below w.heap.size w w') : HasI w' v xs := by
  obtain ⟨a, cap, rfl, hc, hr⟩ := h
  refine ⟨a, cap, rfl, hc, fun i hi => ?_⟩
  obtain ⟨g, off, ha, h1⟩ := hr i hi
  exact ⟨g, off, ha, (hb.cell (p := ⟨g, off + i, none⟩) (World.block_lt_of_cell? w _ h1)).trans h1⟩
theorem RowAt.hasI {w : World} {base : Nat} {v : Value} {st : List Int} (h : RowAt w base v st) : HasI w v st := by
  rcases h with ⟨rfl, rfl⟩ | ⟨g, off, cap, cur, rfl, _, _, h1, _, _, h5⟩
  · exact hasI_nil w
  · exact ⟨_, cap, rfl, h1, fun i hi => ⟨g, off, rfl, h5 i hi⟩⟩

set_option maxRecDepth 100000 in
set_option maxHeartbeats 1000000 in
theorem sameInts_any (xs : List Int) (hn : xs.length ≤ 60) (v v' : Value) (w : World) (h : HasI w v xs) (h' : HasI w v' xs) :
    Calls Tryd.prog 14 #[v, v'] w fun e w' => e = .returned (.bool true) ∧ Below w.heap.size w w' := by
  have HR := hideIt h
  have HR' := hideIt h'
  obtain ⟨a, cap, rfl, hc, _⟩ := h
  obtain ⟨a', cap', rfl, hc', _⟩ := h'
  go_enter Tryd.func14, Tryd.ntmps14
  go_wp2
  go_loopw [5] (fun i wr => ∃ (k : Nat), k ≤ xs.length ∧ i = .int .i64 k ∧ Below w.heap.size w wr) (fun i _ => xs.length - (intOf i).toNat)
  case atStart => exact ⟨0, Nat.zero_le _, rfl, Below.refl _ _⟩
  case round =>
    obtain ⟨i, hi, rfl, hb⟩ := hrel
    have HB := hideIt hb
    clear hb
    by_cases hin : i < xs.length
    · obtain ⟨b1, p1, e1, _, hr1⟩ := HR.out.below HB.out
      obtain ⟨b2, p2, e2, _, hr2⟩ := HR'.out.below HB.out
      simp at e1 e2
      obtain ⟨rfl, rfl⟩ := e1
      obtain ⟨rfl, rfl⟩ := e2
      obtain ⟨g, off, rfl, c1⟩ := hr1 i hin
      obtain ⟨g', off', rfl, c2⟩ := hr2 i hin
      clear hr1 hr2
      generalize xs[i] = x at c1 c2
      have hne : (x != x) = false := by simp
      go_wp2_with fail
      go_big_quiet (fail)
      go_wp2
      go_roundw
      case rel => exact ⟨i + 1, by omega, by go_num, below_drewN HB.out _⟩
      case measure => simp [intOf]; omega
    · go_wp2
      go_ret
      exact ⟨rfl, HB.out⟩
end Go.Proofs.YtibdchahallbjabDoor

namespace Go.Proofs.YtibdchahallbjabDoor
open Go.RowKit

/-- What the document's Closed tells. -/
def GlTold (R : List (List Bool)) (w : World) (e : Ending) (w' : World) : Prop :=
  ∃ v gs A, e = .returned v ∧ OutAt w' w.heap.size R.length v gs A ∧ gs.length = R.length ∧ (∀ i k, i < R.length → k < R.length → A i k = war (gB R) R.length i k) ∧ Below w.heap.size w w'

def grpF (A : Nat → Nat → Bool) (i k : Nat) : Bool := k == i || (A i k && A k i)
theorem grp_of {R : List (List Bool)} {A : Nat → Nat → Bool} {n i : Nat} (hA : ∀ i k, i < n → k < n → A i k = war (gB R) n i k) (hi : i < n) {x : Int} (h : AtR (grpF A i) (i + 1) 0 x) : x = (grpG (gB R) n i : Nat) := by
  rcases h with ⟨_, ha⟩ | ⟨k, rfl, _, hk, hf, hl⟩
  · have := ha i (Nat.zero_le _) (by omega)
    simp [grpF] at this
  · have e : firstN (fun k => k == i || (war (gB R) n i k && war (gB R) n k i)) n = some k := firstN_at (by omega) (fun j hj => by
      have := hl j (Nat.zero_le _) hj
      unfold grpF at this
      rwa [hA i j hi (by omega), hA j i (by omega) hi] at this) (by
      unfold grpF at hf
      rwa [hA i k hi (by omega), hA k i (by omega) hi] at hf)
    unfold grpG
    rw [e]
    rfl
def grpL (R : List (List Bool)) (m : Nat) : List Int := (List.range m).map fun i => ((grpG (gB R) R.length i : Nat) : Int)
theorem grpL_succ (R : List (List Bool)) (m : Nat) : grpL R (m + 1) = grpL R m ++ [((grpG (gB R) R.length m : Nat) : Int)] := by simp [grpL, List.range_succ]
theorem grpL_len (R : List (List Bool)) (m : Nat) : (grpL R m).length = m := by simp [grpL]

end Go.Proofs.YtibdchahallbjabDoor

namespace Go.Proofs.YtibdchahallbjabDoor
open Go.RowKit

set_option maxRecDepth 100000 in
set_option maxHeartbeats 1000000 in
theorem index_any (xs : List Int) (hn : xs.length ≤ 100) (x : Int) (v : Value) (w : World) (h : HasI w v xs) :
    Calls Tryd.prog 50 #[v, .int .i64 x] w fun e w' => ∃ r : Int, e = .returned (.int .i64 r) ∧ (decide (r < 0) = !xs.contains x) ∧ w' = w := by
  obtain ⟨a, cap, rfl, hc, hr⟩ := h
  have HR := hideIt hr
  clear hr
  go_enter Tryd.func50, Tryd.ntmps50
  go_wp2
  go_loopw [9] (fun v wr => ∃ k : Nat, k ≤ xs.length ∧ v = .int .i64 k ∧ (∀ j (h : j < xs.length), j < k → xs[j] ≠ x) ∧ wr = w) (fun v _ => xs.length - (intOf v).toNat)
  case atStart => exact ⟨0, Nat.zero_le _, rfl, fun j _ hj => absurd hj (by omega), rfl⟩
  case round =>
    obtain ⟨k, hk, rfl, ha, rfl⟩ := hrel
    have HA := hideIt ha
    clear ha
    by_cases hkn : k < xs.length
    · obtain ⟨g, off, rfl, c0⟩ := HR.out k hkn
      have hkn' : (k : Int) < xs.length := by omega
      by_cases e : xs[k] = x
      · have HF : Hid (decide ((k : Int) < 0) = !xs.contains x) := by
          have : xs.contains x = true := by rw [List.contains_iff_mem, ← e]; exact List.getElem_mem hkn
          show _ = _
          rw [this]; simp
        rw [e] at c0
        clear e
        have he : (x == x) = true := by simp
        go_wp2
        go_ret
        exact ⟨_, rfl, HF.out, rfl⟩
      · have R1 : Hid (∀ j (h : j < xs.length), j < k + 1 → xs[j] ≠ x) := fun j h hj => by
          by_cases e' : j = k
          · subst e'; exact e
          · exact HA.out j h (by omega)
        generalize xs[k] = y at c0 e
        have he : (y == x) = false := by simp [e]
        clear e
        go_wp2
        go_roundw
        case rel => exact ⟨k + 1, by omega, by go_num, R1.out, trivial⟩
        case measure => simp [intOf]; omega
    · have HF : Hid (decide ((-1 : Int) < 0) = !xs.contains x) := by
        have : xs.contains x = false := by
          cases h : xs.contains x
          · rfl
          · obtain ⟨j, hj, e⟩ := List.getElem_of_mem (List.contains_iff_mem.1 h)
            exact absurd e (HA.out j hj (by omega))
        show _ = _
        rw [this]; rfl
      obtain rfl : k = xs.length := by omega
      go_wp2
      go_ret
      exact ⟨_, rfl, HF.out, rfl⟩

theorem RowAt.short {w : World} {base : Nat} {a : Option Addr} {len cap : Nat} {st : List Int} {x : Int} (h : RowAt w base (.slice a len cap) (st ++ [x])) : RowAt w base (.slice a st.length cap) st := by
  rcases h with ⟨_, h⟩ | ⟨g, off, cap', cur, e, h0, hh, h1, h2, h4, h5⟩
  · simp at h
  · injection e with e1 e2 e3
    subst e1 e3
    refine .inr ⟨g, off, cap, cur, rfl, h0, hh, by simp at h1; omega, h2, h4, fun j hj => ?_⟩
    have := h5 j (by simp; omega)
    rwa [List.getElem_append_left hj] at this
theorem natI_len (L : List Nat) : (natI L).length = L.length := by simp [natI]
theorem natI_mem {L : List Nat} {k : Nat} : (natI L).contains (k : Int) = memB L k := by
  unfold natI memB
  rw [Bool.eq_iff_iff, List.contains_iff_mem, List.contains_iff_mem, List.mem_map]
  constructor
  · rintro ⟨q, hq, e⟩
    rwa [← Int.ofNat.inj e]
  · exact fun h => ⟨k, h, rfl⟩
theorem natI_at {L : List Nat} {j : Nat} (h : j < L.length) : (natI L)[j]'(by rw [natI_len]; exact h) = (L[j] : Int) := by simp [natI]
/-- All of a row behind an empty one. -/
theorem wpList_append_all {w : World} {ops : Array Oper} {rest : List Oper} {o : Oper} {a : Act} {Q : Exit → Act → World → Prop} (hgd : o.guard = none) (s x : Operand)
    (ho : o.op = .call { callee := .builtin .append, args := #[s, x], argTypes := #[29, 29] })
    (E : Addr) (hs : a.eval s = .slice (some E) 0 0) (st : List Int) (hst : 0 < st.length) (hlen : st.length ≤ 1000)
    (B off c : Nat) (hx : a.eval x = .slice (some ⟨B, off, none⟩) st.length c) (hc : ∀ j (h : j < st.length), w.cell? ⟨B, off + j, none⟩ = some (.int .i64 st[j]))
    (h : ∀ v' w', RowAt w' w.heap.size v' st → w.grownBy w' none → wpList Tryd.prog ops Q rest (a.put o.dst v') w') : wpList Tryd.prog ops Q (o :: rest) a w := by
  obtain ⟨i, hi, hz, hsz, hby⟩ := info_parts' info3
  refine wpList_append_grows w hgd s x 29 ho 3 i _ 1 8 Tryd.underlying29 hi hz hsz hby rfl (by decide) (some E) 0 0 [] hs (fun e => by cases e) rfl (fun b hb j u hu => by simp at hu) ⟨B, off, none⟩ st.length c (st.map (Value.int .i64)) hx (by simp) (fun j u hu => ?_) (fun u hu => ?_) (by omega) (by unfold maxLen; omega) (by omega) ?_
  · rw [List.getElem?_map] at hu
    obtain ⟨y, hy, rfl⟩ := Option.map_eq_some_iff.1 hu
    obtain ⟨hj, e⟩ := List.getElem?_eq_some_iff.1 hy
    rw [Addr.add_mid, hc j hj, e]
  · obtain ⟨y, _, rfl⟩ := List.mem_map.1 hu
    rfl
  · intro v' w' ho' hg
    refine h v' w' (rowAt_owns ?_) hg
    simpa using ho'
end Go.Proofs.YtibdchahallbjabDoor

namespace Go.Proofs.YtibdchahallbjabDoor
open Go.RowKit

theorem ownsRow_slice {w : World} {base : Nat} {e : TypeId} {size : Nat} {v : Value} {n : Nat} {xs : List Value} (h : w.ownsRow base e size v n xs) : ∃ a c, v = .slice a n c := by
  obtain ⟨_, ⟨rfl, rfl⟩ | ⟨g, cap, cur, rfl, _⟩⟩ := h
  · exact ⟨_, _, rfl⟩
  · exact ⟨_, _, rfl⟩
theorem ownsRow_same {w w' : World} {base : Nat} {e : TypeId} {size : Nat} {v : Value} {n : Nat} {xs : List Value} (h : w.ownsRow base e size v n xs) (hs : ∀ b, v.ownBlock = some b → w'.heap[b]? = w.heap[b]?) : w'.ownsRow base e size v n xs := by
  obtain ⟨hl, h | ⟨g, cap, cur, rfl, hb, hh, h1⟩⟩ := h
  · exact ⟨hl, .inl h⟩
  · exact ⟨hl, .inr ⟨g, cap, cur, rfl, hb, (hs g rfl).trans hh, h1⟩⟩
theorem ownsRow_block {w : World} {base : Nat} {e : TypeId} {size : Nat} {v : Value} {n : Nat} {xs : List Value} (h : w.ownsRow base e size v n xs) : ∀ b, v.ownBlock = some b → base ≤ b ∧ b < w.heap.size ∧ ∃ cur, w.heap[b]? = some (.cells cur e (0, 0)) := by
  intro b hb
  have hl := h.lt b hb
  obtain ⟨_, ⟨rfl, _⟩ | ⟨g, cap, cur, rfl, _, hh, _⟩⟩ := h
  · cases hb
  · obtain rfl : g = b := by simpa [Value.ownBlock] using hb
    exact ⟨hl.1, hl.2, cur, hh⟩
theorem wpList_append_run {P : Program} (w : World) {ops : Array Oper} {rest : List Oper} {o : Oper} {a : Act} {Q : Exit → Act → World → Prop} (hgd : o.guard = none) (s x : Operand) (t : TypeId)
    (ho : o.op = .call { callee := .builtin .append, args := #[s, x], argTypes := #[t, t] }) (v xv v' : Value) (w' : World) (hs : a.eval s = v) (hx : a.eval x = xv) (hr : (Builtin.append_ #[t, t] o.type #[v, xv]).run P w = .ok v' w')
    (hK : wpList P ops Q rest (a.put o.dst v') w') : wpList P ops Q (o :: rest) a w := by
  refine wpList_plain hgd fun K' hK' => ?_
  unfold Oper.wp execOp
  simp only [ho, resolve, invoke, builtin, Sem.run_bind, Sem.run_pure, Result.andThen_ok, List.map_toArray, List.map_cons, List.map_nil, hs, hx, hr]
  exact hK' _ _ hK
theorem step_append_run {P : Program} {ops : Array Oper} {o : Oper} {a : Act} {w : World} {K : Act → World → Prop} {Q : Exit → Act → World → Prop} {E : Prop} (hgd : o.guard = none) (s x : Operand) (t : TypeId)
    (ho : o.op = .call { callee := .builtin .append, args := #[s, x], argTypes := #[t, t] }) (v xv v' : Value) (w' : World) (hs : a.eval s = v) (hx : a.eval x = xv) (hr : (Builtin.append_ #[t, t] o.type #[v, xv]).run P w = .ok v' w')
    (hK : K (a.put o.dst v') w') : if Region.wanted o (yielded ops a.tmps) = true then Oper.wp P o a w K Q else E := by
  have hw : Region.wanted o (yielded ops a.tmps) = true := by simp [Region.wanted, hgd]
  rw [if_pos hw]
  unfold Oper.wp execOp
  simp only [ho, resolve, invoke, builtin, Sem.run_bind, Sem.run_pure, Result.andThen_ok, List.map_toArray, List.map_cons, List.map_nil, hs, hx, hr]
  exact hK
end Go.Proofs.YtibdchahallbjabDoor
