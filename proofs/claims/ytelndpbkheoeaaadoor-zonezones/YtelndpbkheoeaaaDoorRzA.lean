/-
  The document's own value, ZoneCheck of whatever list, and all ops behind the write of 0, walked.
-/
import Derived.Test.YtelndpbkheoeaaaDoorCkR
import Derived.Test.YtelndpbkheoeaaaDoorRzP
import Derived.Test.YtelndpbkheoeaaaDoorRzM
import Derived.Test.YtelndpbkheoeaaaDoorZonWZ
import Derived.Laws.AppendOwnNone
import Derived.Laws.Rows
namespace Go.Proofs.YtelndpbkheoeaaaDoor
open Go.RowKit

set_option maxHeartbeats 400000 in
theorem value_any (x : Opn) (w : World) : Calls Tryd.prog 20 #[x.agg] w fun e w' => e = .returned (.int .i64 (valO x)) ∧ Below w.heap.size w w' := by
  unfold Opn.agg
  cases hd : x.d == 2
  · have hv : valO x = x.r := by unfold valO; rw [if_neg (by simpa using hd)]
    rw [hv]
    clear hv
    go_enter Tryd.func20, Tryd.ntmps20
    go_wp2
    go_ret
    exact ⟨rfl, belA (Below.refl _ _) _⟩
  · have hv : valO x = x.a := by unfold valO; rw [if_pos (by simpa using hd)]
    rw [hv]
    clear hv
    go_enter Tryd.func20, Tryd.ntmps20
    go_wp2
    go_ret
    exact ⟨rfl, belA (Below.refl _ _) _⟩

set_option maxHeartbeats 400000 in
theorem rCheck_none (a : Option Addr) (cap : Nat) (w : World) : Calls Tryd.prog 11 #[.slice a 0 cap] w fun e w' => e = .returned (.int .i64 0) ∧ Below w.heap.size w w' := by
  go_enter Tryd.func11, Tryd.ntmps11
  go_wp2_with (go_at_call 27; refine (opsCheck_none a cap _).mono ?_; rintro e w' ⟨rfl, rfl⟩)
  refine wp_loop_rounds 1 ?_
  rw [rounds_succ]
  go_wp2
  go_ret
  exact ⟨rfl, Below.refl _ _⟩

theorem rCheck_any (l : List Opn) (a : Option Addr) (cap : Nat) (w : World) (hlen : l.length ≤ 60) (hcap : l.length ≤ cap) (hl : OpsH w a l) :
    Calls Tryd.prog 11 #[.slice a l.length cap] w fun e w' => ∃ n, e = .returned (.int .i64 n) ∧ CTold zFormB 2 l n ∧ Below w.heap.size w w' := by
  rcases hl with rfl | ⟨b, off, rfl, hb, hl⟩
  · exact (rCheck_none a cap w).mono fun e w' ⟨he, hw⟩ => ⟨0, he, cTold_all told_nil (fun j hj => absurd hj (by simp)), hw⟩
  · by_cases h0 : 0 < l.length
    · exact rCheck_some l b off cap w hlen h0 hcap hl hb
    · obtain rfl : l = [] := List.length_eq_zero_iff.1 (by omega)
      exact (rCheck_none _ cap w).mono fun e w' ⟨he, hw⟩ => ⟨0, he, cTold_all told_nil (fun j hj => absurd hj (by simp)), hw⟩

def Opn.lst (x : Opn) : List Value := [.int .i64 x.p, .int .i64 x.k, .int .i64 x.d, .int .i64 x.a, .int .i64 x.b, .int .i64 x.r, .int .i64 x.c, .int .i64 x.e]
def flatP (l : List Opn) : List Value := l.flatMap Opn.lst
theorem flatP_len (l : List Opn) : (flatP l).length = l.length * 8 := by
  induction l with
  | nil => rfl
  | cons x r ih => show (x.lst ++ flatP r).length = _; rw [List.length_append, ih]; simp [Opn.lst]; omega
theorem flatP_get (l : List Opn) (i c : Nat) (hi : i < l.length) (hc : c < 8) : (flatP l)[i * 8 + c]? = l[i].lst[c]? := by
  induction l generalizing i with
  | nil => simp at hi
  | cons x r ih =>
    show (x.lst ++ flatP r)[i * 8 + c]? = _
    cases i with
    | zero =>
      rw [List.getElem?_append_left (by simp [Opn.lst]; omega)]
      simp
    | succ i =>
      rw [List.getElem?_append_right (by simp [Opn.lst]; omega), show x.lst.length = 8 from rfl, show (i + 1) * 8 + c - 8 = i * 8 + c from by omega, ih i (by simpa using hi)]
      simp
theorem flatP_one (l : List Opn) : ∀ u ∈ flatP l, u.oneCell' = true := fun u hu => by
  obtain ⟨p, _, h⟩ := List.mem_flatMap.1 hu
  simp [Opn.lst] at h
  rcases h with rfl | rfl | rfl | rfl | rfl | rfl | rfl | rfl <;> rfl
theorem flatP_at {w : World} {b off : Nat} {l : List Opn} (h : OpsAt w b off l) (j : Nat) (u : Value) (hu : (flatP l)[j]? = some u) : w.cell? (Addr.add ⟨b, off, none⟩ j) = some u := by
  have hj : j < l.length * 8 := by rw [← flatP_len]; exact (List.getElem?_eq_some_iff.1 hu).1
  have hd : j / 8 < l.length := by omega
  rw [show j = j / 8 * 8 + j % 8 from by omega, flatP_get l (j / 8) (j % 8) hd (by omega)] at hu
  have e : (Addr.add ⟨b, off, none⟩ j : Addr) = ⟨b, off + j / 8 * 8 + j % 8, none⟩ := by
    unfold Addr.add
    split
    · next h0 => subst h0; simp
    · simp; omega
  rw [e]
  obtain ⟨h0, h1, h2, h3, h4, h5, h6, h7⟩ := h (j / 8) hd
  rcases (by omega : j % 8 = 0 ∨ j % 8 = 1 ∨ j % 8 = 2 ∨ j % 8 = 3 ∨ j % 8 = 4 ∨ j % 8 = 5 ∨ j % 8 = 6 ∨ j % 8 = 7) with q | q | q | q | q | q | q | q <;> rw [q] at hu ⊢ <;> obtain rfl := Option.some.inj hu
  · exact h0
  · exact h1
  · exact h2
  · exact h3
  · exact h4
  · exact h5
  · exact h6
  · exact h7
theorem opsAt_row {w : World} {base g cap : Nat} {l : List Opn} (h : w.ownsRow base 54 8 (.slice (some ⟨g, 0, none⟩) l.length cap) l.length (flatP l)) : OpsAt w g 0 l := fun i hi => by
  have c : ∀ c, c < 8 → w.cell? ⟨g, 0 + i * 8 + c, none⟩ = l[i].lst[c]? := fun c hc => by
    rw [Nat.zero_add, h.cellAt (i * 8 + c) (by omega), flatP_get l i c hi hc]
  exact ⟨c 0 (by decide), c 1 (by decide), c 2 (by decide), c 3 (by decide), c 4 (by decide), c 5 (by decide), c 6 (by decide), c 7 (by decide)⟩
theorem info54 : (Tryd.prog.info? 54).map (fun i => (i.zero, i.size, i.bytes)) = some (some (.agg #[.int .i64 0, .int .i64 0, .int .i64 0, .int .i64 0, .int .i64 0, .int .i64 0, .int .i64 0, .int .i64 0]), 8, 64) := by kernel_rfl
theorem info37 : (Tryd.prog.info? 37).map (fun i => (i.zero, i.size, i.bytes)) = some (some (.agg #[.int .i64 0, .int .i64 0, .int .i64 0, .bool false]), 4, 32) := by kernel_rfl

/-- Ops that can be appended: a nil list has no capacity. -/
def OpsZ (w : World) (a : Option Addr) (cap : Nat) (l : List Opn) : Prop := OpsH w a l ∧ (a = none → cap = 0)

/-- Ops appended to a row. -/
theorem wpList_append_ops {w : World} {ops : Array Oper} {rest : List Oper} {o : Oper} {ac : Act} {Q : Exit → Act → World → Prop} (hgd : o.guard = none) (s x : Operand)
    (ho : o.op = .call { callee := .builtin .append, args := #[s, x], argTypes := #[22, 22] }) (base : Nat) (v : Value) (A l : List Opn) (a : Option Addr) (cap : Nat) (hs : ac.eval s = v) (hown : w.ownsRow base 54 8 v A.length (flatP A))
    (hx : ac.eval x = .slice a l.length cap) (hl : OpsZ w a cap l) (hA : A.length ≤ 100) (hlen : l.length ≤ 60) (hbase : base ≤ w.heap.size) (hv : v ≠ .slice none 0 0)
    (h : ∀ v' w', w'.ownsRow base 54 8 v' (A ++ l).length (flatP (A ++ l)) → w.grownBy w' v.ownBlock → v' ≠ .slice none 0 0 → wpList Tryd.prog ops Q rest (ac.put o.dst v') w') : wpList Tryd.prog ops Q (o :: rest) ac w := by
  obtain ⟨i0, hi, hz0, hz1, hz2⟩ := info_parts info54
  have hflat : flatP (A ++ l) = flatP A ++ flatP l := by simp [flatP]
  obtain ⟨hl, hn⟩ := hl
  cases a with
  | none =>
    have hl0 : l = [] := by
      rcases hl with h | ⟨b, off, e, _⟩
      · exact h
      · cases e
    subst hl0
    obtain rfl := hn rfl
    refine wpList_append_own_none hgd s x 22 ho base 54 i0 8 Tryd.underlying22 hi v _ _ hs hown hx ?_
    have := h v w (by rw [List.append_nil]; exact hown) ⟨rfl, rfl, rfl, Nat.le_refl _, fun _ _ _ => rfl⟩ hv
    exact this
  | some ad =>
    refine wpList_append_own _ hgd s x 22 ho base 54 i0 _ 8 64 Tryd.underlying22 hi hz0 hz1 hz2 rfl (by decide) v _ _ hs hown ad l.length cap (flatP l) hx (flatP_len l) ?_ (flatP_one l) (by unfold maxLen; omega) (by omega) hbase ?_
    · intro j u hu
      rcases hl with h0 | ⟨b, off, e, _, ho⟩
      · subst h0; simp [flatP] at hu
      · obtain rfl := Option.some.inj e
        exact flatP_at ho j u hu
    · intro v' w' hown' hg' hnil
      exact h v' w' (by rw [List.length_append, hflat]; exact hown') hg' (fun e => hv (hnil.1 e).1)

end Go.Proofs.YtelndpbkheoeaaaDoor
