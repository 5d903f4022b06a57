/-
  The statement EventOps walked: whatever the events, true.
-/
import Derived.Test.YtkedbcfejcakaaaDoorOpsLaw
namespace Go.Proofs.YtkedbcfejcakaaaDoor
open Go.RowKit

set_option maxHeartbeats 400000 in
theorem evOps_too_long (l : List Ev) (a : Option Addr) (cap : Nat) (w : World) (h : 120 < l.length) (h2 : l.length ≤ 1000) :
    Calls Tryd.prog 12 #[.slice a l.length cap] w fun e w' => e = .returned (.tuple #[.slice none 0 0, .iface 28 (.int .i64 4)]) ∧ Below w.heap.size w w' := by
  have h120 : decide (120 < (l.length : Int)) = true := by simp; omega
  clear h
  go_enter Tryd.func12, Tryd.ntmps12
  go_wp2
  go_ret2
  exact ⟨rfl, Below.refl _ _⟩

theorem evCells_get (L : List Ev) (i c : Nat) (hi : i < L.length) (hc : c < 7) : (evCells L)[i * 7 + c]? = L[i].cells[c]? := by
  induction L generalizing i with
  | nil => simp at hi
  | cons x r ih =>
    show (x.cells ++ evCells r)[i * 7 + c]? = _
    cases i with
    | zero =>
      rw [List.getElem?_append_left (by show _ < 7; omega)]
      simp
    | succ i =>
      rw [List.getElem?_append_right (by show 7 ≤ _; omega), show (i + 1) * 7 + c - x.cells.length = i * 7 + c from by show (i + 1) * 7 + c - 7 = _; omega, ih i (by simpa using hi)]
      simp

theorem evs_own {w : World} {base : Nat} {v : Value} {l : List Ev} (h : w.ownsRow base 30 7 v l.length (evCells l)) (hp : 0 < l.length) : ∃ g cap, v = .slice (some ⟨g, 0, none⟩) l.length cap ∧ l.length ≤ cap ∧ g < w.heap.size ∧ EvsAt w g 0 l := by
  rcases h.2 with ⟨_, h0⟩ | ⟨g, cap, cur, rfl, _, hg, h1, _, _, h4⟩
  · omega
  · refine ⟨g, cap, rfl, h1, (Array.getElem?_eq_some_iff.1 hg).1, fun i hi => ?_⟩
    have hc : ∀ c, c < 7 → w.cell? ⟨g, 0 + i * 7 + c, none⟩ = l[i].cells[c]? := fun c hc => by
      rw [cell_of_row w g _ cur 30 (0, 0) hg, ← evCells_get l i c hi hc, ← h4, List.getElem?_take_of_lt (by omega)]
      simp
    exact ⟨hc 0 (by decide), hc 1 (by decide), hc 2 (by decide), hc 3 (by decide), hc 4 (by decide), hc 5 (by decide), hc 6 (by decide)⟩

theorem first_one {l : List Ev} {k k' : Nat} (h : k < l.length) (h' : k' < l.length) (hf : FineH l k) (hf' : FineH l k') (hn : seeN l[k] (hist l k) ≠ 0) (hn' : seeN l[k'] (hist l k') ≠ 0) : k = k' := by
  rcases Nat.lt_trichotomy k k' with e | e | e
  · exact absurd (hf' k h e) hn
  · exact e
  · exact absurd (hf k' h' e) hn'

def GlobE (w : World) : Prop := w.cell? ⟨1, 0, none⟩ = some (.iface 164 (.agg #[.pointer (some ⟨8, 26, none⟩)]))
/-- An error that is a fault's. -/
def AtOk (w : World) (E : Value) (x y : Int) : Prop := ∀ W, Below w.heap.size w W → GlobE W → Calls Tryd.prog 13 #[E, .agg #[.int .i64 x, .int .i64 y]] W fun e w' => e = .returned (.bool true) ∧ Below W.heap.size W w'

theorem ev_shape (w : World) (x y : Int) : (w.alloc (.cells #[.int .i64 x, .int .i64 y] 37)).cell? ⟨w.heap.size, 0, none⟩ = some (.int .i64 x) ∧ (w.alloc (.cells #[.int .i64 x, .int .i64 y] 37)).cell? ⟨w.heap.size, 1, none⟩ = some (.int .i64 y) := ⟨by simp, by simp⟩

set_option maxRecDepth 100000 in
set_option maxHeartbeats 1000000 in
theorem law_any (a : Option Addr) (n cap : Nat) (w : World) (hn : n ≤ 150) (x y : Int) (L : List Opn) (hL : L.length ≤ 1000) (hg : GlobE w)
    (h10 : Calls Tryd.prog 10 #[.slice a n cap] w fun e w1 => ∃ v, e = .returned v ∧ Below w.heap.size w w1 ∧ Calls Tryd.prog 11 #[v] w1 fun e w2 => ∃ V, e = .returned (.tuple #[V, .agg #[.int .i64 x, .int .i64 y]]) ∧ HasO w2 V L ∧ Below w1.heap.size w1 w2)
    (h12 : ∀ W, Below w.heap.size w W → Calls Tryd.prog 12 #[.slice a n cap] W fun e w' => ∃ U E, e = .returned (.tuple #[U, E]) ∧ HasO w' U L ∧ AtOk w' E x y ∧ Below W.heap.size W w') :
    Calls Tryd.prog 4 #[.slice a n cap] w fun e w' => e = .returned (.bool true) ∧ Below w.heap.size w w' := by
  have HG : Hid (∀ W, Below w.heap.size w W → GlobE W) := fun W hb => globB hb hg
  have H10 := hideIt h10
  have H12 := hideIt h12
  have h150 : decide (150 < (n : Int)) = false := by simp; omega
  clear hg h10 h12
  go_enter Tryd.func4, Tryd.ntmps4
  go_wp2_with fail
  refine H10.out.mono ?_
  rintro e w1 ⟨v, rfl, hb1, h11⟩
  have HB1 := hideIt hb1
  have H11 := hideIt h11
  clear hb1 h11
  go_wp2_with fail
  refine H11.out.mono ?_
  rintro e w2 ⟨V, rfl, hV, hb2⟩
  have HB2 := hideIt (belJ HB1.out hb2)
  have HV := hideIt hV
  have HB3 := hideIt (belA HB2.out (.cells #[.int .i64 x, .int .i64 y] 37))
  have HS := hideIt (ev_shape w2 x y)
  have HBA : Hid (Below w2.heap.size w2 (w2.alloc (.cells #[.int .i64 x, .int .i64 y] 37))) := belA (Below.refl _ _) _
  clear hb2 hV
  go_wp2_with fail
  refine (H12.out _ HB3.out).mono ?_
  rintro e w4 ⟨U, E, rfl, hU, hat, hb4⟩
  have HU := hideIt hU
  have HAT := hideIt hat
  have HB4 := hideIt (belJ HB3.out hb4)
  have HVV := hideIt ((HV.out.below HBA.out).below hb4)
  have c0 := (hb4.cell (p := ⟨w2.heap.size, 0, none⟩) (World.block_lt_of_cell? _ _ HS.out.1)).trans HS.out.1
  have c1 := (hb4.cell (p := ⟨w2.heap.size, 1, none⟩) (World.block_lt_of_cell? _ _ HS.out.2)).trans HS.out.2
  clear hU hat hb4
  go_wp2_with (first | (go_at_call 13; refine (HAT.out _ (Below.refl _ _) (HG.out _ HB4.out)).mono ?_; rintro e w5 ⟨rfl, hb5⟩; have HB5 := hideIt hb5; clear hb5) | (go_at_call 14; refine (sameOps_same _ _ L _ hL (HU.out.below HB5.out) (HVV.out.below HB5.out)).mono ?_; rintro e w6 ⟨rfl, hb6⟩; have HB6 := hideIt hb6; clear hb6))
  go_ret
  exact ⟨rfl, belJ (belJ HB4.out HB5.out) HB6.out⟩

set_option maxHeartbeats 400000 in
theorem law_long (a : Option Addr) (n cap : Nat) (w : World) (h : 150 < n) (h2 : n ≤ maxLen) : Calls Tryd.prog 4 #[.slice a n cap] w fun e w' => e = .returned (.bool true) ∧ Below w.heap.size w w' := by
  unfold maxLen at h2
  go_enter Tryd.func4, Tryd.ntmps4
  go_wp2
  go_ret
  exact ⟨rfl, Below.refl _ _⟩

theorem fine_or (l : List Ev) : FineH l l.length ∨ ∃ k, ∃ h : k < l.length, FineH l k ∧ seeN l[k] (hist l k) ≠ 0 := by
  have : ∀ m, m ≤ l.length → FineH l m ∨ ∃ k, ∃ h : k < l.length, FineH l k ∧ seeN l[k] (hist l k) ≠ 0 := by
    intro m
    induction m with
    | zero => exact fun _ => .inl fun i _ h => absurd h (Nat.not_lt_zero _)
    | succ m ih =>
      intro hm
      rcases ih (by omega) with h | h
      · by_cases hz : seeN (l[m]'(by omega)) (hist l m) = 0
        · refine .inl fun i hi him => ?_
          by_cases e : i < m
          · exact h i hi e
          · obtain rfl : i = m := by omega
            exact hz
        · exact .inr ⟨m, by omega, h, hz⟩
      · exact .inr h
  exact this l.length (Nat.le_refl _)

theorem opsTo_le (l : List Ev) (n : Nat) : (opsTo l n).length ≤ n := opsTo_len l n

/-- What the document's Ops tells of events that are all fine, or of the first that isn't. -/
theorem ref_fine {l : List Ev} {base : Nat} {e : Ending} {w' : World} (h : RefTold l base e w') (hl : l.length ≤ 120) (hf : FineH l l.length) : ∃ V, e = .returned (.tuple #[V, .agg #[.int .i64 0, .int .i64 (-1)]]) ∧ HasO w' V (opsTo l l.length) := by
  rcases h with ⟨h, _⟩ | ⟨k, n, hk, _, hn, hz, _⟩ | ⟨_, _, v, he, ho⟩
  · omega
  · exact absurd (hf k hk hk) (by rw [hn]; exact hz)
  · exact ⟨v, he, hasO_own ho⟩
theorem ref_bad {l : List Ev} {base : Nat} {e : Ending} {w' : World} (h : RefTold l base e w') (hl : l.length ≤ 120) {k : Nat} (hk : k < l.length) (hf : FineH l k) (hn : seeN l[k] (hist l k) ≠ 0) : ∃ V, e = .returned (.tuple #[V, .agg #[.int .i64 (seeN l[k] (hist l k)), .int .i64 k]]) ∧ HasO w' V [] := by
  rcases h with ⟨h, _⟩ | ⟨k', n, hk', hf', hn', hz, he⟩ | ⟨_, hff, _⟩
  · omega
  · obtain rfl := first_one hk hk' hf hf' hn (by rw [hn']; exact hz)
    rw [hn']
    exact ⟨_, he, hasO_nil _⟩
  · exact absurd (hff k hk hk) hn
theorem ops_fine {l : List Ev} {e : Ending} {w' : World} (h : OpsTold l e w') (hl : l.length ≤ 120) (hf : FineH l l.length) : ∃ U E, e = .returned (.tuple #[U, E]) ∧ HasO w' U (opsTo l l.length) ∧ AtOk w' E 0 (-1) := by
  rcases h with ⟨h, _⟩ | ⟨k, g, n, hk, _, hn, hz, _⟩ | ⟨_, _, a, cap, L, he, hL, _, ho⟩
  · omega
  · exact absurd (hf k hk hk) (by rw [hn]; exact hz)
  · obtain rfl := ops_same hf hL
    exact ⟨_, _, he, ⟨a, cap, rfl, ho⟩, fun W _ _ => at_nil W⟩
theorem ops_bad {l : List Ev} {e : Ending} {w' : World} (h : OpsTold l e w') (hl : l.length ≤ 120) {k : Nat} (hk : k < l.length) (hf : FineH l k) (hn : seeN l[k] (hist l k) ≠ 0) : ∃ U E, e = .returned (.tuple #[U, E]) ∧ HasO w' U [] ∧ AtOk w' E (seeN l[k] (hist l k)) k := by
  rcases h with ⟨h, _⟩ | ⟨k', g, n, hk', hf', hn', hz, he, c0, c1⟩ | ⟨_, hff, _⟩
  · omega
  · obtain rfl := first_one hk hk' hf hf' hn (by rw [hn']; exact hz)
    rw [hn']
    exact ⟨_, _, he, hasO_nil _, fun W hb hg => at_at n k g W hg ((hb.cell (World.block_lt_of_cell? _ _ c0)).trans c0) ((hb.cell (World.block_lt_of_cell? _ _ c1)).trans c1)⟩
  · exact absurd (hff k hk hk) hn

theorem eventOps_walk (l : List Ev) (b off cap : Nat) (w : World) (hpos : 0 < l.length) (h150 : l.length ≤ 150) (hl : EvsAt w b off l) (hb : b < w.heap.size) (hg : GlobE w) (hf0 : w.cell? ⟨0, 0, none⟩ = some (.int .i64 0)) (hf1 : w.cell? ⟨0, 1, none⟩ = some (.int .i64 (-1))) :
    Calls Tryd.prog 4 #[.slice (some ⟨b, off, none⟩) l.length cap] w fun e w' => e = .returned (.bool true) ∧ Below w.heap.size w w' := by
  by_cases h120 : 120 < l.length
  · refine law_any _ _ _ w h150 4 (-1) [] (by decide) hg ?_ ?_
    · refine (events_any l b off cap w h150 hb hl).mono ?_
      rintro e w1 ⟨v, rfl, ho, hb1⟩
      obtain ⟨g, c, rfl, _⟩ := evs_own ho hpos
      refine ⟨_, rfl, hb1, (refOps_long l _ c w1 h120 (by omega)).mono ?_⟩
      rintro e w2 ⟨he, hb2⟩
      exact ⟨_, he, hasO_nil _, hb2⟩
    · intro W _
      refine (evOps_too_long l _ cap W h120 (by omega)).mono ?_
      rintro e w' ⟨he, hb'⟩
      exact ⟨_, _, he, hasO_nil _, fun W' _ hg' => at_errno 4 W' hg', hb'⟩
  · have h120' : l.length ≤ 120 := by omega
    have href : ∀ w1, Below w.heap.size w w1 → ∀ v, w1.ownsRow w.heap.size 30 7 v l.length (evCells l) → Calls Tryd.prog 11 #[v] w1 fun e w2 => RefTold l (w1.heap.size + 1) e w2 ∧ Below w1.heap.size w1 w2 := by
      intro w1 hb1 v ho
      obtain ⟨g, c, rfl, hc, hgs, hev⟩ := evs_own ho hpos
      exact refOps_some l g c w1 h120' hc hev hgs ((hb1.cell (World.block_lt_of_cell? _ _ hf0)).trans hf0) ((hb1.cell (World.block_lt_of_cell? _ _ hf1)).trans hf1)
    rcases fine_or l with hfine | ⟨k, hk, hfk, hnk⟩
    · refine law_any _ _ _ w h150 0 (-1) (opsTo l l.length) (by have := opsTo_le l l.length; omega) hg ?_ ?_
      · refine (events_any l b off cap w h150 hb hl).mono ?_
        rintro e w1 ⟨v, rfl, ho, hb1⟩
        refine ⟨_, rfl, hb1, (href w1 hb1 v ho).mono ?_⟩
        rintro e w2 ⟨ht, hb2⟩
        obtain ⟨V, he, hV⟩ := ref_fine ht h120' hfine
        exact ⟨V, he, hV, hb2⟩
      · intro W hbW
        refine (evOps_some l b off cap W h120' (hl.below hb hbW) (Nat.lt_of_lt_of_le hb hbW.size)).mono ?_
        rintro e w' ⟨ht, hb'⟩
        obtain ⟨U, E, he, hU, hat⟩ := ops_fine ht h120' hfine
        exact ⟨U, E, he, hU, hat, hb'⟩
    · refine law_any _ _ _ w h150 (seeN l[k] (hist l k)) k [] (by decide) hg ?_ ?_
      · refine (events_any l b off cap w h150 hb hl).mono ?_
        rintro e w1 ⟨v, rfl, ho, hb1⟩
        refine ⟨_, rfl, hb1, (href w1 hb1 v ho).mono ?_⟩
        rintro e w2 ⟨ht, hb2⟩
        obtain ⟨V, he, hV⟩ := ref_bad ht h120' hk hfk hnk
        exact ⟨V, he, hV, hb2⟩
      · intro W hbW
        refine (evOps_some l b off cap W h120' (hl.below hb hbW) (Nat.lt_of_lt_of_le hb hbW.size)).mono ?_
        rintro e w' ⟨ht, hb'⟩
        obtain ⟨U, E, he, hU, hat⟩ := ops_bad ht h120' hk hfk hnk
        exact ⟨U, E, he, hU, hat, hb'⟩

theorem eventOps_none (a : Option Addr) (cap : Nat) (w : World) (hg : GlobE w) (hf0 : w.cell? ⟨0, 0, none⟩ = some (.int .i64 0)) (hf1 : w.cell? ⟨0, 1, none⟩ = some (.int .i64 (-1))) :
    Calls Tryd.prog 4 #[.slice a 0 cap] w fun e w' => e = .returned (.bool true) ∧ Below w.heap.size w w' := by
  have hfine : FineH [] ([] : List Ev).length := fun i h => absurd h (Nat.not_lt_zero _)
  refine law_any _ _ _ w (by decide) 0 (-1) (opsTo [] 0) (by have := opsTo_le [] 0; omega) hg ?_ ?_
  · refine (events_none a cap w).mono ?_
    rintro e w1 ⟨rfl, rfl⟩
    refine ⟨_, rfl, Below.refl _ _, (refOps_none none 0 w1 hf0 hf1).mono ?_⟩
    rintro e w2 ⟨ht, hb2⟩
    obtain ⟨V, he, hV⟩ := ref_fine ht (by decide) hfine
    exact ⟨V, he, hV, hb2⟩
  · intro W hbW
    refine (evOps_none a cap W).mono ?_
    rintro e w' ⟨ht, hb'⟩
    obtain ⟨U, E, he, hU, hat⟩ := ops_fine ht (by decide) hfine
    exact ⟨U, E, he, hU, hat, hb'⟩

end Go.Proofs.YtkedbcfejcakaaaDoor
