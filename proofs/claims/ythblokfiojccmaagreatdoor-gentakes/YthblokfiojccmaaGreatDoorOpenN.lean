/-
  Numbers, rows of numbers and texts that came in, opened.
-/
import Derived.Test.YthblokfiojccmaaGreatDoorRows
import Derived.Test.YthblokfiojccmaaGreatDoorGnM
import Derived.ProofKit
import Derived.WalkKit
import Derived.ChangeOld
import Derived.Below
import Derived.LaidMore
import Derived.LaidSub
import Derived.OpenShut
import Derived.Stop.Joined
import Derived.Deep.Slices
import Derived.SizedLaws
import Derived.Lib.SmallJoins
namespace Go.Proofs.YthblokfiojccmaaGreatDoor.Gn
open Go.ChangeShapes Go.WideShapes Go.ChangeAt Go.RowKit

/-- A list made of what there is at each number. -/
theorem list_of {α : Type} {p : Nat → α → Prop} (n : Nat) (h : ∀ i, i < n → ∃ x, p i x) : ∃ l : List α, l.length = n ∧ ∀ i, (hi : i < l.length) → p i l[i] := by
  induction n with
  | zero => exact ⟨[], rfl, fun i hi => absurd hi (Nat.not_lt_zero _)⟩
  | succ n ih =>
    obtain ⟨l, hl, hp⟩ := ih fun i hi => h i (by omega)
    obtain ⟨x, hx⟩ := h n (by omega)
    refine ⟨l ++ [x], by simp [hl], fun i hi => ?_⟩
    by_cases e : i < l.length
    · rw [List.getElem_append_left e]; exact hp i e
    · have : i = n := by simp at hi; omega
      subst this
      rw [List.getElem_append_right (by omega)]
      simp [hl]; exact hx

theorem own : ownKnob Tryz.prog.godebug = none := by kernel_rfl
theorem laidOut : laidOutB Tryz.prog = true := by kernel_rfl

section
variable {H : Type} {enc : TypeId × Value → H} {w : World} {base : Nat} {spare : Nat → Bool} {held : Bool}

/-- What came in reads behind the call as before, where nothing of it was written. -/
theorem trodAll_belowP {P : Program} (hl : laidOutB P = true) {W W' : World} (hb : Below W.heap.size W W') : ∀ {ts : List TypeId} {vs : List Value} {ds : List (DataW H)} {p : List MemPlace}, (∀ t ∈ ts, P.readableRec t = true ∧ t < P.types.size) → DataW.TrodAll enc P W 0 (fun _ => true) true ts vs ds p →
    DataW.TrodAll enc P W' 0 (fun b => decide (b < W.heap.size)) true ts vs ds p
  | [], vs, ds, p, _, h => by obtain ⟨rfl, rfl, rfl⟩ := trodAll_nil h; exact trodAll_mk0
  | t :: ts, vs, ds, p, hr, h => by
    obtain ⟨v, vs', d, ds', p1, p2, rfl, rfl, rfl, h1, h2⟩ := trodAll_cons h
    refine trodAll_cons_mk (Below.trod hl (hr t (List.mem_cons_self ..)).1 (hr t (List.mem_cons_self ..)).2 h1 hb ?_) (trodAll_belowP hl hb (fun u hu => hr u (List.mem_cons_of_mem _ hu)) h2)
    obtain ⟨m, h1⟩ := h1
    exact DataW.trod_lt m _ _ _ h1

theorem wgtAll_mem {P : Program} {e : TypeId} : ∀ {l : List (DataW H)} {d : DataW H}, d ∈ l → ∀ n ∈ d.weights P e, n ∈ DataW.weightsAll P e l
  | x :: l, d, hd, n, hn => by
    simp only [DataW.weightsAll, List.mem_append]
    rcases List.mem_cons.1 hd with rfl | hd
    · exact .inl hn
    · exact .inr (wgtAll_mem hd n hn)

/-- A list that came in: each element by its own reading. -/
theorem row_of_trod {P : Program} {t e : TypeId} {c : Nat} {α : Type} {R : DataW H → List Value → α → Prop} (hu : P.underlying t = some (.slice e)) (hc : P.cellsOf e = c) (hc1 : 1 ≤ c)
    (he : ∀ fuel vs d ps, DataW.trod enc P w base spare held fuel e vs = some (d, ps) → ∃ y, R d vs y) {fuel : Nat} {cs : List Value} {d : DataW H} {ps : List MemPlace} (h : DataW.trod enc P w base spare held fuel t cs = some (d, ps)) :
    ∃ (l : List α) (a : Option Addr) (cap : Nat), cs = [.slice a l.length cap] ∧ l.length ≤ cap ∧ l.length ≤ maxLen ∧ ((∀ n ∈ d.weights P t, n ≤ reachBytes) → l.length * P.bytesOf e ≤ reachBytes) ∧
      (l = [] ∨ ∃ b off, a = some ⟨b, off, none⟩ ∧ b < w.heap.size ∧ ∀ k (hk : k < l.length), ∃ d' vs, R d' vs l[k] ∧ vs.length = c ∧ (∀ j v, vs[j]? = some v → w.cell? ⟨b, off + k * c + j, none⟩ = some v) ∧ ∀ n ∈ d'.weights P e, n ∈ d.weights P t) := by
  rcases DataW.trod_slice hu h with ⟨hcs, _⟩ | ⟨a', len, cap, elems, rest, n, _, hcs, hx, hb, hl, hm, hlen, hel, _, _⟩
  · exact ⟨[], none, 0, hcs, Nat.le_refl _, Nat.zero_le _, fun _ => by simp, .inl rfl⟩
  · injection hx with hd _
    subst hd
    rw [hc] at hel
    have hW : ∀ n, n ∈ (elems.map (·.1)).flatMap (fun d => d.weights P e) → n ∈ DataW.weights P t (.slice (elems.map (·.1)) (rest.map (·.1))) := fun n hn => by
      obtain ⟨d, hd, hn⟩ := List.mem_flatMap.1 hn
      simp only [DataW.weights, hu, List.mem_cons, List.mem_append]
      exact .inr (.inl (wgtAll_mem hd n hn))
    have hq : ∀ i, i < len → ∃ y : α, ∃ d' vs, R d' vs y ∧ vs.length = c ∧ (∀ j v, vs[j]? = some v → w.cell? ((a'.add (i * c)).add j) = some v) ∧ ∀ n ∈ d'.weights P e, n ∈ DataW.weights P t (.slice (elems.map (·.1)) (rest.map (·.1))) := fun i hi => by
      have h0 := hel i hi
      rw [List.getElem?_eq_getElem (by omega)] at h0
      obtain ⟨vs, h1, h2⟩ := Option.bind_eq_some_iff.1 h0
      obtain ⟨_, hcl, h3⟩ := World.cells?_some h1
      obtain ⟨y, hy⟩ := he n vs _ _ (by rw [h2])
      refine ⟨y, _, vs, hy, hcl, fun j v hv => ?_, fun n hn => hW n (List.mem_flatMap.2 ⟨_, List.mem_map.2 ⟨_, List.getElem_mem _, rfl⟩, hn⟩)⟩
      have hj : j < vs.length := (List.getElem?_eq_some_iff.1 hv).1
      rw [h3 j (by omega), hv]
    obtain ⟨l, hV, hp⟩ := list_of len hq
    refine ⟨l, some a', cap, by rw [hV]; exact hcs, by omega, by omega, fun hw => ?_, ?_⟩
    · have := hw ((elems.length + rest.length) * P.bytesOf e) (by simp [DataW.weights, hu])
      refine Nat.le_trans (Nat.mul_le_mul_right _ ?_) this
      omega
    · by_cases h0 : l = []
      · exact .inl h0
      · have hpos : 0 < l.length := List.length_pos_iff.2 h0
        obtain ⟨b, off, spot⟩ := a'
        obtain ⟨_, vs, _, hvl, hs0, _⟩ := hp 0 hpos
        have hs0 := hs0 0 vs[0] (List.getElem?_eq_getElem (by omega))
        have hspot : spot = none := by
          have := World.cell?_spot hs0
          cases spot with
          | none => rfl
          | some s => simp [Addr.add] at this
        subst hspot
        refine .inr ⟨b, off, rfl, ?_, fun j hj => ?_⟩
        · have := World.block_lt_of_cell? w _ hs0
          simpa [Addr.add] using this
        · obtain ⟨d', vs, h1, h2, h3, h4⟩ := hp j hj
          refine ⟨d', vs, h1, h2, fun i v hv => ?_, h4⟩
          have := h3 i v hv
          rwa [Addr.add_lit, Addr.add_lit] at this

theorem cellsI : Tryz.prog.cellsOf 3 = 1 := by kernel_rfl
theorem int_wf {n : Int} (h : (Lit.int .i64 n).wf = true) : -9223372036854775808 ≤ n ∧ n < 9223372036854775808 := by
  have h2 : -9223372036854775808 ≤ n ∧ n ≤ 9223372036854775807 := by simpa [Lit.wf, IntKind.min, IntKind.max, IntKind.signed, IntKind.bits] using h
  omega
theorem ints_of_Trod {a : Option Addr} {len cap : Nat} {d : DataW H} {ps : List MemPlace} (h : DataW.Trod enc Tryz.prog w base spare held 22 (.slice a len cap) d ps) : ∃ l : List Int, len = l.length ∧ InQ w (.slice a len cap) l ∧ ∀ n ∈ l, -9223372036854775808 ≤ n ∧ n < 9223372036854775808 := by
  obtain ⟨fuel, hf⟩ := h
  obtain ⟨l, a', cap', hcs, h1, h2, _, h3⟩ := row_of_trod (R := fun _ vs (x : Int) => vs = [.int .i64 x] ∧ -9223372036854775808 ≤ x ∧ x < 9223372036854775808) Tryz.underlying22 cellsI (by decide) (fun fuel vs d ps h => by obtain ⟨i, e, _, hw⟩ := DataW.trod_int Tryz.underlying3 h; exact ⟨i, e, int_wf hw⟩) hf
  simp [Value.cells] at hcs
  obtain ⟨rfl, rfl, rfl⟩ := hcs
  refine ⟨l, rfl, ⟨a, cap, rfl, h1, ?_⟩, ?_⟩
  · rcases h3 with h3 | ⟨b, off, rfl, hb, hk⟩
    · exact Or.inl h3
    · refine Or.inr ⟨b, off, rfl, hb, fun i hi => ?_⟩
      obtain ⟨_, vs, ⟨rfl, _⟩, _, hv, _⟩ := hk i hi
      simpa using hv 0 _ rfl
  · intro n hn
    obtain ⟨i, hi, rfl⟩ := List.getElem_of_mem hn
    rcases h3 with h3 | ⟨b, off, rfl, hb, hk⟩
    · subst h3; cases hi
    · obtain ⟨_, vs, ⟨rfl, h4⟩, _⟩ := hk i hi
      exact h4
end
end Go.Proofs.YthblokfiojccmaaGreatDoor.Gn
