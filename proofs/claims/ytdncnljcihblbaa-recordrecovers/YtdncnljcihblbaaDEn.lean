/-
  An event written as bytes: the document's way, walked.
-/
import Derived.Test.YtdncnljcihblbaaLgV
namespace Go.Proofs.Ytdncnljcihblbaa
open Go.RowKit

theorem kept_obj {W W' : World} {base k : Nat} {v : Value} {n : Nat} {xs : List Value} {cs : Array Value} {t : TypeId} {fr : Nat × Nat} (ho : W.ownsRow base 5 1 v n xs) (hk : W.heap[k]? = some (.cells cs t fr)) (hg : W.grownBy W' v.ownBlock) (ht : t ≠ 5) : W'.heap[k]? = some (.cells cs t fr) := by
  rw [← hk]
  refine hg.block k (Array.getElem?_eq_some_iff.1 hk).1 (fun e => ?_)
  obtain ⟨_, ⟨rfl, _⟩ | ⟨g, c, cur, rfl, _, h5, _⟩⟩ := ho
  · cases e
  · cases e; rw [hk] at h5; cases h5; exact ht rfl
theorem alloc_obj {W : World} {k : Nat} {o : Obj} (h : W.heap[k]? = some o) (o' : Obj) : (W.alloc o').heap[k]? = some o := by
  rw [Below.heap_alloc W o' k (Array.getElem?_eq_some_iff.1 h).1]; exact h
theorem byte_of {y : Nat} (h : y < 128) : IntKind.u8.wrap (y : Int) = (y : Int) := by rw [IntKind.wrap_u8']; omega

/-- The block of the three numbers. -/
def Three (w : World) (g : Nat) (a b r : Int) : Prop := w.heap[g]? = some (.cells #[.int .i64 a, .int .i64 b, .int .i64 r] 3 (0, 0))
theorem Three.cell {w : World} {g : Nat} {a b r : Int} (h : Three w g a b r) (j : Nat) (hj : j < 3) : w.cell? ⟨g, j, none⟩ = some (.int .i64 ([a, b, r][j]'hj)) := by
  rw [cell_of_row w _ j _ _ _ h]
  match j, hj with
  | 0, _ => rfl
  | 1, _ => rfl
  | 2, _ => rfl

set_option maxHeartbeats 4000000 in
set_option maxRecDepth 100000 in
theorem refEncode_any (e : Ev) (w : World) (h : OkE e) :
    Calls Try.prog 27 #[e.agg] w fun r w' => ∃ v, r = .returned v ∧ w'.ownsRow w.heap.size 5 1 v (encL e).length (byCs (encL e)) ∧ Below w.heap.size w w' := by
  obtain ⟨i0, hi, hz0, hz1, hz2⟩ := info_parts' infoB
  have HK := hideIt (encK_len h)
  have H3 := hideIt (encK_three e)
  obtain ⟨p, t, k, d, a, b, r⟩ := e
  obtain ⟨hp, htt, hkk, hd, ha, hb, hr⟩ := h
  simp only at hp htt hkk hd ha hb hr
  obtain ⟨p, rfl⟩ := Int.eq_ofNat_of_zero_le hp.1
  obtain ⟨t, rfl⟩ := Int.eq_ofNat_of_zero_le (show 0 ≤ t by omega)
  obtain ⟨k, rfl⟩ := Int.eq_ofNat_of_zero_le hkk.1
  obtain ⟨d, rfl⟩ := Int.eq_ofNat_of_zero_le (show 0 ≤ d by omega)
  unfold Ev.agg
  rw [← H3.out]
  have E0 := hideIt (show encK ⟨p, t, k, d, a, b, r⟩ 0 = [p, t, k, d] from rfl)
  have ES : Hid (∀ j : Nat, (h : j < 3) → encK ⟨p, t, k, d, a, b, r⟩ (j + 1) = encK ⟨p, t, k, d, a, b, r⟩ j ++ varL (zzN ([a, b, r][j]'h))) := by
    intro j hj
    match j, hj with
    | 0, _ => rfl
    | 1, _ => rfl
    | 2, _ => rfl
  have EB : Hid (∀ j : Nat, (h : j < 3) → (-1000000 ≤ ([a, b, r][j]'h)) ∧ (([a, b, r][j]'h) ≤ 1000000)) := by
    intro j hj
    match j, hj with
    | 0, _ => exact ha
    | 1, _ => exact hb
    | 2, _ => exact hr
  generalize encK ⟨p, t, k, d, a, b, r⟩ = N at *
  clear H3 ha hb hr
  go_enter Try.func27, Try.ntmps27
  go_wp2
  generalize hW : (((w.alloc _).alloc _).alloc _) = W
  have hown0 : W.ownsRow (w.heap.size + 1) 5 1 (.slice (some ⟨w.heap.size + 1, 0, none⟩) 4 4) (N 0).length (byCs (N 0)) := by
    rw [E0.out, ← hW]
    have := (World.ownsRow_lit (base := w.heap.size + 1) (e := 5) (size := 1) (w.alloc (.cells #[.int .i64 p, .int .i64 t, .int .i64 k, .int .i64 d, .int .i64 a, .int .i64 b, .int .i64 r] 50)) #[.int .u8 p, .int .u8 t, .int .u8 k, .int .u8 d] 4 (by simp) (by decide) rfl).alloc (.cells #[.int .i64 a, .int .i64 b, .int .i64 r] 3)
    simpa [byCs] using this
  have hn0 : Three W (w.heap.size + 1 + 1) a b r := by
    rw [← hW]
    have := heap_alloc_new ((w.alloc (.cells #[.int .i64 p, .int .i64 t, .int .i64 k, .int .i64 d, .int .i64 a, .int .i64 b, .int .i64 r] 50)).alloc (.cells #[.int .u8 p, .int .u8 t, .int .u8 k, .int .u8 d] 5)) (.cells #[.int .i64 a, .int .i64 b, .int .i64 r] 3)
    rw [World.size_alloc, World.size_alloc] at this
    exact this
  have hbel0 : Below w.heap.size w W := by rw [← hW]; exact below_alloc (below_alloc (below_alloc (Below.refl _ _) _) _) _
  have hszW : w.heap.size + 3 ≤ W.heap.size := by rw [← hW]; simp
  have HO0 := hideIt hown0
  have HN0 := hideIt hn0
  have HB0 := hideIt hbel0
  clear hown0 hn0 hbel0 hW
  go_loopw [3, 28] (fun v i wr => ∃ j : Nat, j ≤ 3 ∧ i = .int .i64 j ∧ wr.ownsRow (w.heap.size + 1) 5 1 v (N j).length (byCs (N j)) ∧ Below w.heap.size w wr ∧ w.heap.size + 3 ≤ wr.heap.size ∧ Three wr (w.heap.size + 1 + 1) a b r) (fun _ i _ => 3 - (intOf i).toNat)
  case atStart => exact ⟨0, by omega, rfl, HO0.out, HB0.out, hszW, HN0.out⟩
  case round =>
    obtain ⟨j, hj, rfl, hown, hnx, hsz, hobj⟩ := hrel
    have HO := hideIt hown
    have HX := hideIt hnx
    have HH := hideIt hobj
    clear hown hnx HO0 HN0 HB0
    by_cases hj3 : j < 3
    · have q0 := hobj.cell j hj3
      have hj3i : (j : Int) < 3 := by omega
      have hj3d : decide ((j : Int) < 3) = true := decide_eq_true hj3i
      have HSN : Hid (N (j + 1) = N j ++ varL (zzN ([a, b, r][j]'hj3))) := ES.out j hj3
      have hbd := EB.out j hj3
      clear hobj
      generalize ([a, b, r][j]'hj3) = x at *
      have hz := zzN_lt hbd
      have HVL := hideIt (varL_len hz)
      have HNL := hideIt (HK.out j)
      have HZ : (if x < 0 then -2 * x - 1 = ((zzN x : Nat) : Int) else 2 * x = ((zzN x : Nat) : Int)) := by
        unfold zzN; split <;> omega
      generalize zzN x = z at *
      by_cases hneg : x < 0
      all_goals
        first | (have HZ' := hideIt ((if_pos hneg) ▸ HZ)) | (have HZ' := hideIt ((if_neg hneg) ▸ HZ))
        clear HZ
        go_wp2
        go_loopw [3, 6] (fun v u wq => ∃ (d : List Nat) (y : Nat), u = .int .i64 (y : Nat) ∧ y ≤ z ∧ varL z = d ++ varL y ∧ wq.ownsRow (w.heap.size + 1) 5 1 v (N j ++ d).length (byCs (N j ++ d)) ∧ Below w.heap.size w wq ∧ w.heap.size + 3 ≤ wq.heap.size ∧ Three wq (w.heap.size + 1 + 1) a b r) (fun _ u _ => (intOf u).toNat)
        case atStart => exact ⟨[], z, val_int HZ'.out, Nat.le_refl _, rfl, by simpa using HO.out, HX.out, hsz, HH.out⟩
        case round =>
          obtain ⟨d', y, rfl, hy, hd', hown, hnx, hsq, hobj⟩ := hrel
          have HD := hideIt hd'
          have hdl : d'.length ≤ 3 := by
            have h1 := HVL.out; rw [hd'] at h1; simp at h1; omega
          have hnl := HNL.out
          have HX2 := hideIt hnx
          have HH2 := hideIt hobj
          clear hd' hnx hobj HH
          by_cases hlt : y < 128
          · go_wp2_with (at_builtin; refine wpList_append_own _ rfl _ _ 22 rfl (w.heap.size + 1) 5 i0 _ 1 1 Try.underlying22 hi hz0 hz1 hz2 rfl (by decide) _ _ _ rfl (hown.alloc _) ⟨wr.heap.size, 0, none⟩ 1 1 [.int .u8 (y : Nat)] rfl rfl ?c1 ?c2 ?c3 ?c4 ?c5 ?_)
            case c1 =>
              intro j' u hj'
              match j', hj' with
              | 0, hj' => simp at hj'; subst hj'; simp [Addr.add]
              | n + 1, hj' => simp at hj'
            case c2 => intro u hu; simp at hu; subst hu; rfl
            case c3 => unfold maxLen; simp; omega
            case c4 => simp; omega
            case c5 => simp; omega
            · intro v' w1 hown' hgrow _
              have R1 : Hid (w1.ownsRow (w.heap.size + 1) 5 1 v' (N (j + 1)).length (byCs (N (j + 1)))) := by
                show w1.ownsRow (w.heap.size + 1) 5 1 v' (N (j + 1)).length (byCs (N (j + 1)))
                rw [HSN.out, HD.out, varL_small hlt, ← List.append_assoc]; simpa [byCs, Nat.add_assoc] using hown'
              have R2 : Hid (Below w.heap.size w w1) := (below_alloc HX2.out _).grown hgrow (by simp; omega) (fun g hg => Nat.le_trans (by omega) (hown.lt g hg).1)
              have R3 : Hid (Three w1 (w.heap.size + 1 + 1) a b r) := kept_obj (hown.alloc _) (alloc_obj HH2.out _) hgrow (by decide)
              have R4 : w.heap.size + 3 ≤ w1.heap.size := by have := hgrow.size; simp at this; omega
              clear hown' hgrow hown
              go_wp2
              go_roundw
              case rel => exact ⟨j + 1, by omega, by go_num, R1.out, R2.out, R4, R3.out⟩
              case measure => simp [intOf]; omega
          · go_wp2_with (at_builtin; refine wpList_append_own _ rfl _ _ 22 rfl (w.heap.size + 1) 5 i0 _ 1 1 Try.underlying22 hi hz0 hz1 hz2 rfl (by decide) _ _ _ rfl (hown.alloc _) ⟨wr.heap.size, 0, none⟩ 1 1 [.int .u8 ((y % 128 + 128 : Nat) : Int)] rfl rfl ?c1 ?c2 ?c3 ?c4 ?c5 ?_)
            case c1 =>
              intro j' u hj'
              match j', hj' with
              | 0, hj' => simp at hj'; subst hj'; simp [Addr.add]
              | n + 1, hj' => simp at hj'
            case c2 => intro u hu; simp at hu; subst hu; rfl
            case c3 => unfold maxLen; simp; omega
            case c4 => simp; omega
            case c5 => simp; omega
            · intro v' w1 hown' hgrow _
              have R1 : Hid (w1.ownsRow (w.heap.size + 1) 5 1 v' (N j ++ (d' ++ [y % 128 + 128])).length (byCs (N j ++ (d' ++ [y % 128 + 128])))) := by
                show w1.ownsRow (w.heap.size + 1) 5 1 v' (N j ++ (d' ++ [y % 128 + 128])).length (byCs (N j ++ (d' ++ [y % 128 + 128])))
                rw [← List.append_assoc]; simpa [byCs, Nat.add_assoc] using hown'
              have R2 : Hid (Below w.heap.size w w1) := (below_alloc HX2.out _).grown hgrow (by simp; omega) (fun g hg => Nat.le_trans (by omega) (hown.lt g hg).1)
              have R3 : Hid (Three w1 (w.heap.size + 1 + 1) a b r) := kept_obj (hown.alloc _) (alloc_obj HH2.out _) hgrow (by decide)
              have R4 : w.heap.size + 3 ≤ w1.heap.size := by have := hgrow.size; simp at this; omega
              clear hown' hgrow hown
              go_wp2
              go_roundw
              case rel => exact ⟨d' ++ [y % 128 + 128], y / 128, val_int (by omega), by omega, by rw [HD.out, varL_great hlt]; simp, R1.out, R2.out, R4, R3.out⟩
              case measure => simp [intOf]; omega
    · obtain rfl : j = 3 := by omega
      go_wp2
      go_ret
      exact ⟨_, rfl, own_mono HO.out (by omega), HX.out⟩

end Go.Proofs.Ytdncnljcihblbaa
