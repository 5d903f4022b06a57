/-
  The document's net, walked: Double.
-/
import Derived.Test.YtggdjongbmdefaaDoorNtW
namespace Go.Proofs.YtggdjongbmdefaaDoor
open Go.RowKit

/-- What Double tells. -/
def DoubTold (base B o : Nat) (v : Value) (L : List Md) (i : Int) (w : World) (e : Ending) (w' : World) : Prop :=
  ((i < 0 ∨ (L.length : Int) ≤ i) ∧ e = .returned (.int .i64 8) ∧ w' = w) ∨
  (∃ (k : Nat) (m : Md), i = k ∧ L[k]? = some m ∧ SendTold base B o v L m w e w')

set_option maxRecDepth 100000 in
set_option maxHeartbeats 4000000 in
theorem double_any (i : Int) (base B o : Nat) (cut : Bool) (lv v : Value) (L : List Md) (hL : L.length ≤ 500) (w : World) (h : NetD w base B o cut lv v L) :
    Calls Tryd.prog 17 #[.pointer (some ⟨B, o, none⟩), .int .i64 i] w fun e w' => DoubTold base B o v L i w e w' := by
  have HN := hideIt h
  have c2 := h.c2
  by_cases h0 : i < 0
  · have h0' : decide (i < 0) = true := decide_eq_true h0
    go_enter Tryd.func17, Tryd.ntmps17
    go_wp2
    go_ret
    exact .inl ⟨.inl h0, rfl, rfl⟩
  have h0' : decide (i < 0) = false := decide_eq_false h0
  by_cases h1 : (L.length : Int) ≤ i
  · obtain ⟨va, vc, rfl⟩ := h.slice
    have h1' : decide (i ≥ (L.length : Int)) = true := decide_eq_true h1
    have H1 := hideIt h1
    clear h
    go_enter Tryd.func17, Tryd.ntmps17
    go_wp2
    go_ret
    exact .inl ⟨.inr H1.out, rfl, rfl⟩
  have h1' : decide (i ≥ (L.length : Int)) = false := decide_eq_false h1
  obtain ⟨k, rfl⟩ : ∃ k : Nat, i = k := ⟨i.toNat, by omega⟩
  have hk : k < L.length := by omega
  have hkL : (k : Int) < (L.length : Int) := by omega
  obtain ⟨g, cap, cur, rfl, hbg, hgc, hnc, hcm, hcs, hcx⟩ : ∃ g cap cur, v = .slice (some ⟨g, 0, none⟩) L.length cap ∧ base ≤ g ∧ w.heap[g]? = some (.cells cur 49 (0, 0)) ∧ L.length ≤ cap ∧ cap ≤ maxLen ∧ cur.size = cap * 3 ∧ cur.toList.take (L.length * 3) = mdCs L := by
    rcases h.row.2 with ⟨_, e⟩ | h
    · omega
    · exact h
  have hcelw := HN.out.row.cells (g := g) rfl
  have HLk : Hid (L[k]? = some L[k]) := List.getElem?_eq_getElem hk
  have hmk : ∀ j u, (mdC L[k])[j]? = some u → (mdCs L)[k * 3 + j]? = some u := fun j u hj => by
    refine mdCs_drop (Nat.le_of_lt hk) ?_
    rw [List.drop_eq_getElem_cons hk, show L[k] :: L.drop (k + 1) = [L[k]] ++ L.drop (k + 1) from rfl, mdCs_app, mdCs_one, List.getElem?_append_left (List.getElem?_eq_some_iff.1 hj).1]
    exact hj
  generalize L[k] = m at hmk HLk
  have cm0 := hcelw _ _ (hmk 0 _ rfl)
  have cm1 := hcelw _ _ (hmk 1 _ rfl)
  have cm2 := hcelw _ _ (hmk 2 _ rfl)
  rw [Addr.add_lit, Nat.zero_add] at cm0 cm1 cm2
  simp only [Nat.add_zero] at cm0
  clear h hcelw hmk
  go_enter Tryd.func17, Tryd.ntmps17
  go_wp2_with fail
  refine (send_any m base B o cut lv _ L hL w HN.out).mono ?_
  rintro e w2 (⟨h3, rfl, h5⟩ | ⟨h3, rfl, h5⟩)
  · have HT := hideIt h5
    clear h5
    go_wp2
    go_ret
    exact .inr ⟨k, m, rfl, HLk.out, .inl ⟨h3, rfl, HT.out⟩⟩
  · have HT := hideIt h5
    clear h5
    go_wp2
    go_ret
    exact .inr ⟨k, m, rfl, HLk.out, .inr ⟨h3, rfl, HT.out⟩⟩
end Go.Proofs.YtggdjongbmdefaaDoor
