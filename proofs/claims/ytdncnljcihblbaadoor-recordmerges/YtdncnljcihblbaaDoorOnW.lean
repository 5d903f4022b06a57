/-
  Events with tickets, each ticket once: walked.
-/
import Derived.Test.YtdncnljcihblbaaDoorSortK
import Derived.Test.YtdncnljcihblbaaDoorLgV
import Derived.Test.YtdncnljcihblbaaDoorEvM
import Derived.Laws.MakeOwn
namespace Go.Proofs.YtdncnljcihblbaaDoor
open Go.RowKit

theorem new_at {W : World} {cs : Array Value} {t : TypeId} {k j : Nat} {u : Value} (hk : k = W.heap.size) (h : cs[j]? = some u) : (W.alloc (.cells cs t)).cell? ((⟨k, 0, none⟩ : Addr).add j) = some u := by
  subst hk
  rw [Addr.add_lit, Nat.zero_add, cell_of_row _ _ _ _ _ _ (heap_alloc_new W _)]
  exact h
theorem own_drewN {W : World} {base : Nat} {e : TypeId} {z : Nat} {v : Value} {n : Nat} {xs : List Value} (h : W.ownsRow base e z v n xs) (m : Nat) : (W.drewN m).ownsRow base e z v n xs := h

/-- What once tells. -/
def OnT (w : World) (l : List Kp) (e : Ending) (w' : World) : Prop :=
  Below w.heap.size w w' ∧ ((twinB l = true ∧ e = .returned (.tuple #[.slice none 0 0, .iface 28 (.int .i64 9)])) ∨ (twinB l = false ∧ ∃ v, e = .returned (.tuple #[v, .nilIface]) ∧ w'.ownsRow w.heap.size 23 7 v l.length (evCells (l.map Kp.e))))

theorem twinB_iff : ∀ (l : List Kp), twinB l = false ↔ ∀ i, (h : i + 1 < l.length) → l[i].n ≠ l[i + 1].n
  | [] => ⟨fun _ i h => by simp at h, fun _ => rfl⟩
  | [a] => ⟨fun _ i h => by simp at h, fun _ => rfl⟩
  | a :: b :: l => by
    rw [twinB, Bool.or_eq_false_iff, decide_eq_false_iff_not, twinB_iff (b :: l)]
    constructor
    · rintro ⟨h1, h2⟩ i hi
      cases i with
      | zero => exact h1
      | succ i => exact h2 i (by simpa using hi)
    · intro h
      exact ⟨h 0 (by simp), fun i hi => h (i + 1) (by simpa using hi)⟩

set_option maxHeartbeats 2000000 in
set_option maxRecDepth 100000 in
theorem once_any (g c : Nat) (l : List Kp) (w : World) (hA : KpsAt w g 0 l) (hg : g < w.heap.size) (hl : l.length ≤ 100000) :
    Calls Tryd.prog 36 #[.slice (some ⟨g, 0, none⟩) l.length c] w fun e w' => OnT w l e w' := by
  obtain ⟨i0, hi, hz0, hz1, hz2⟩ := info_parts' infoE
  obtain ⟨w2, hmk, hown, hgr⟩ := run_make_own (P := Tryd.prog) w w.heap.size 27 23 i0 _ 7 Tryd.underlying27 hi hz0 hz1 .i64 .i64 l.length (by rw [hz2]; omega) (by unfold maxLen; omega) (Nat.le_refl _)
  have HO2 := hideIt hown
  have HB2 := hideIt (show Below w.heap.size w w2 from (Below.refl _ _).grown hgr (Nat.le_refl _) (fun g hg => by cases hg))
  have HA := hideIt hA
  clear hA hown hgr
  go_enter Tryd.func36, Tryd.ntmps36
  go_wp2
  go_loopw [4, 12] (fun v i wr => ∃ k : Nat, k ≤ l.length ∧ i = .int .i64 k ∧ (∀ j, (h : j + 1 < l.length) → j + 1 < k → l[j].n ≠ l[j + 1].n) ∧ wr.ownsRow w.heap.size 23 7 v k (evCells ((l.take k).map Kp.e)) ∧ Below w.heap.size w wr) (fun _ i _ => l.length - (intOf i).toNat)
  case atStart => exact ⟨0, Nat.zero_le _, rfl, fun j _ h => by omega, HO2.out, HB2.out⟩
  case round =>
    obtain ⟨k, hk, rfl, hup, hown, hnx⟩ := hrel
    have HU := hideIt hup
    have HO := hideIt hown
    have HX := hideIt hnx
    have hsz := hnx.size
    clear hup hown hnx
    by_cases hlt : k < l.length
    · obtain ⟨c0, c1, c2, c3, c4, c5, c6, c7⟩ := (show KpAt wr g (0 + k * 8) l[k] from by
        obtain ⟨d0, d1, d2, d3, d4, d5, d6, d7⟩ := HA.out k hlt
        exact ⟨(HX.out.cell (p := ⟨g, _, none⟩) hg).trans d0, (HX.out.cell (p := ⟨g, _, none⟩) hg).trans d1, (HX.out.cell (p := ⟨g, _, none⟩) hg).trans d2, (HX.out.cell (p := ⟨g, _, none⟩) hg).trans d3, (HX.out.cell (p := ⟨g, _, none⟩) hg).trans d4, (HX.out.cell (p := ⟨g, _, none⟩) hg).trans d5, (HX.out.cell (p := ⟨g, _, none⟩) hg).trans d6, (HX.out.cell (p := ⟨g, _, none⟩) hg).trans d7⟩)
      rw [Nat.zero_add] at c0 c1 c2 c3 c4 c5 c6 c7
      have HT : Hid (evCells ((l.take (k + 1)).map Kp.e) = evCells ((l.take k).map Kp.e) ++ l[k].e.cells) := by
        show evCells ((l.take (k + 1)).map Kp.e) = evCells ((l.take k).map Kp.e) ++ l[k].e.cells
        rw [List.take_succ_eq_append_getElem hlt, List.map_append]
        exact evCells_snoc _ _
      by_cases hk0 : k = 0
      · subst hk0
        have HU2 : Hid (∀ j, (h : j + 1 < l.length) → j + 1 < 0 + 1 → l[j].n ≠ l[j + 1].n) := fun j _ h => by omega
        generalize l[0] = x at *
        simp only [Nat.zero_mul, Nat.zero_add] at c0 c1 c2 c3 c4 c5 c6 c7
        go_wp2_with fail
        go_quiet (fail)
        go_wp2_with (at_builtin; refine wpList_append_own _ rfl _ _ 27 rfl w.heap.size 23 i0 _ 7 56 Tryd.underlying27 hi hz0 hz1 hz2 rfl (by decide) _ _ _ rfl ((own_drewN (HO.out.alloc _) _).alloc _) ⟨wr.heap.size + 1, 0, none⟩ 1 1 [.int .i64 x.e.p, .int .i64 x.e.t, .int .i64 x.e.k, .int .i64 x.e.d, .int .i64 x.e.a, .int .i64 x.e.b, .int .i64 x.e.r] rfl rfl ?c1 ?c2 ?c3 ?c4 ?c5 ?_)
        case c1 =>
          intro j u hj
          exact new_at (by simp) (by simpa using hj)
        case c2 => intro u hu; simp at hu; rcases hu with rfl | rfl | rfl | rfl | rfl | rfl | rfl <;> rfl
        case c3 => unfold maxLen; omega
        case c4 => omega
        case c5 => simp; omega
        intro v2 w4 ho4 hg4 _
        have R1 : Hid (w4.ownsRow w.heap.size 23 7 v2 (0 + 1) (evCells ((l.take (0 + 1)).map Kp.e))) := by
          show w4.ownsRow w.heap.size 23 7 v2 (0 + 1) (evCells ((l.take (0 + 1)).map Kp.e))
          rw [HT.out]; first | exact ho4 | (rw [List.map_take]; exact ho4)
        have R2 : Hid (Below w.heap.size w w4) := (below_alloc (below_drewN (below_alloc HX.out _) _) _).grown hg4 (by simp; omega) (fun g hg => (HO.out.lt g hg).1)
        clear ho4 hg4
        go_wp2
        go_roundw
        case rel => exact ⟨0 + 1, by omega, by go_num, HU2.out, R1.out, R2.out⟩
        case measure => simp [intOf]; omega
      · have hk1 : 0 < k := by omega
        have c8 := (HX.out.cell (p := ⟨g, 0 + (k - 1) * 8, none⟩) hg).trans (HA.out (k - 1) (by omega)).1
        rw [Nat.zero_add] at c8
        have HL : Hid (∀ x y, l[k - 1].n = y → l[k] = x → ((y ≠ x.n → ∀ j, (h : j + 1 < l.length) → j + 1 < k + 1 → l[j].n ≠ l[j + 1].n) ∧ (y = x.n → twinB l = true))) := by
          intro x y hy hx
          obtain ⟨m, rfl⟩ : ∃ m, k = m + 1 := ⟨k - 1, by omega⟩
          simp at hy
          refine ⟨fun hne j hj hjk => ?_, fun he => ?_⟩
          · by_cases e : j = m
            · subst e; rw [hy, hx]; exact hne
            · exact HU.out j hj (by omega)
          · cases hr : twinB l
            · exact absurd (by rw [hy, hx]; exact he) ((twinB_iff l).1 hr m hlt)
            · rfl
        have HX2 := hideIt (HL.out l[k] l[k - 1].n rfl rfl)
        clear HL
        generalize l[k - 1].n = y at *
        generalize l[k] = x at *
        have k1 : (0 : Int) < (k : Int) := by omega
        have k2 : (1 : Int) ≤ (k : Int) := by omega
        have k3 : (k : Int) < (l.length : Int) := by omega
        have kd1 : decide ((0 : Int) < (k : Int)) = true := decide_eq_true k1
        have kd2 : decide (0 < k) = true := decide_eq_true hk1
        obtain ⟨q, hq⟩ : ∃ q, q = k - 1 := ⟨_, rfl⟩
        have hwr : IntKind.i64.wrap ((k : Int) - 1) = (q : Int) := by rw [IntKind.wrap_i64]; omega
        have k4 : q < l.length := by omega
        have hgz : g < wr.heap.size := by omega
        rw [← hq] at c8
        clear hq
        by_cases hxy : y = x.n
        · have hb : (x.n == y) = true := by simp [hxy]
          have HN := hideIt (HX2.out.2 hxy)
          clear HX2 hxy
          go_wp2_with fail
          go_quiet (fail)
          go_wp2
          go_ret2
          exact ⟨below_drewN (below_alloc HX.out _) _, Or.inl ⟨HN.out, rfl⟩⟩
        · have hb : (x.n == y) = false := by simp; omega
          have HU2 := hideIt (HX2.out.1 hxy)
          clear HX2 hxy
          go_wp2_with fail
          go_quiet (fail)
          go_wp2_with (at_builtin; refine wpList_append_own _ rfl _ _ 27 rfl w.heap.size 23 i0 _ 7 56 Tryd.underlying27 hi hz0 hz1 hz2 rfl (by decide) _ _ _ rfl ((own_drewN (HO.out.alloc _) _).alloc _) ⟨wr.heap.size + 1, 0, none⟩ 1 1 [.int .i64 x.e.p, .int .i64 x.e.t, .int .i64 x.e.k, .int .i64 x.e.d, .int .i64 x.e.a, .int .i64 x.e.b, .int .i64 x.e.r] rfl rfl ?c1 ?c2 ?c3 ?c4 ?c5 ?_)
          case c1 =>
            intro j u hj
            exact new_at (by simp) (by simpa using hj)
          case c2 => intro u hu; simp at hu; rcases hu with rfl | rfl | rfl | rfl | rfl | rfl | rfl <;> rfl
          case c3 => unfold maxLen; omega
          case c4 => omega
          case c5 => simp; omega
          intro v2 w4 ho4 hg4 _
          have R1 : Hid (w4.ownsRow w.heap.size 23 7 v2 (k + 1) (evCells ((l.take (k + 1)).map Kp.e))) := by
            show w4.ownsRow w.heap.size 23 7 v2 (k + 1) (evCells ((l.take (k + 1)).map Kp.e))
            rw [HT.out]; first | exact ho4 | (rw [List.map_take]; exact ho4)
          have R2 : Hid (Below w.heap.size w w4) := (below_alloc (below_drewN (below_alloc HX.out _) _) _).grown hg4 (by simp; omega) (fun g hg => (HO.out.lt g hg).1)
          clear ho4 hg4
          go_wp2
          go_roundw
          case rel => exact ⟨k + 1, by omega, by go_num, HU2.out, R1.out, R2.out⟩
          case measure => simp [intOf]; omega
    · have HT : Hid (twinB l = false) := (twinB_iff l).2 (fun j h => HU.out j h (by omega))
      have hkl : k = l.length := by omega
      go_wp2
      go_ret2
      refine ⟨HX.out, Or.inr ⟨HT.out, _, rfl, ?_⟩⟩
      have := HO.out
      rw [hkl, List.take_length] at this
      exact this

end Go.Proofs.YtdncnljcihblbaaDoor
