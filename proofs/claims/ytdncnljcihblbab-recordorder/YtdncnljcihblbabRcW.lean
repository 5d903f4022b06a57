/-
  What is recovered of bytes: the program's way, walked.
-/
import Derived.Test.YtdncnljcihblbabFsW
import Derived.Test.YtdncnljcihblbabLgV
import Derived.Test.YtdncnljcihblbabEvM
namespace Go.Proofs.Ytdncnljcihblbab
open Go.RowKit

set_option maxHeartbeats 1000000 in
set_option maxRecDepth 100000 in
theorem first_six_any (b o : Nat) (l : List Nat) (w : World) (hB : Byt l) (h6 : l.length = 6) (hb : b < w.heap.size) (hA : BysAt w b o l) :
    Calls Try.prog 21 #[.slice (some ⟨b, o, none⟩) l.length 6] w fun e w' => e = .returned (fstV l) ∧ Below w.heap.size w w' := by
  have c0 : w.cell? ⟨b, o, none⟩ = some (.int .u8 (l[0] : Nat)) := hA 0 (by omega)
  have c1 : w.cell? ⟨b, o + 1, none⟩ = some (.int .u8 (l[1] : Nat)) := hA 1 (by omega)
  have b0 := hB.at (i := 0) (by omega)
  have b1 := hB.at (i := 1) (by omega)
  have g0 : l.getD 0 0 = l[0] := by rw [List.getD_eq_getElem?_getD, List.getElem?_eq_getElem (by omega)]; rfl
  have g1 : l.getD 1 0 = l[1] := by rw [List.getD_eq_getElem?_getD, List.getElem?_eq_getElem (by omega)]; rfl
  have hr : fstV l = .tuple #[.agg #[.int .i64 0, .int .i64 0, .int .i64 0, .int .i64 0, .int .i64 0, .int .i64 0, .int .i64 0], .int .i64 0, .bool false] := by
    unfold fstV firstL
    rw [g0, g1, if_neg (by omega)]
    by_cases hs : l.length < 6 + l[0] * 256 + l[1]
    · rw [if_pos hs]; rfl
    · rw [if_neg hs]
      have : (l.take (6 + l[0] * 256 + l[1])).drop 6 = [] := by
        apply List.eq_nil_of_length_eq_zero
        simp; omega
      rw [this]; rfl
  rw [hr]
  clear hr g0 g1 hA hB
  rw [h6]
  generalize l[0] = x0 at *
  generalize l[1] = x1 at *
  have HD : Hid (∀ W, Below w.heap.size w W → Calls Try.prog 13 #[.slice (some ⟨b, o, none⟩) 0 0] W fun e w' => e = .returned (.tuple #[.agg #[.int .i64 0, .int .i64 0, .int .i64 0, .int .i64 0, .int .i64 0, .int .i64 0, .int .i64 0], .iface 58 (.int .i64 3)]) ∧ Below W.heap.size W w') := fun W hw => decode_any (.slice (some ⟨b, o, none⟩) 0 0) [] W ⟨fun _ h => (List.not_mem_nil h).elim, Or.inr ⟨b, o, 0, rfl, Nat.le_refl _, Nat.lt_of_lt_of_le hb hw.size, fun i hi => absurd hi (Nat.not_lt_zero _)⟩⟩ (by simp)
  by_cases hs : 6 < 6 + x0 * 256 + x1
  · have hs' : (6 : Int) < 6 + (x0 : Int) * 256 + (x1 : Int) := by omega
    go_enter Try.func21, Try.ntmps21
    go_wp2_with fail
    go_quiet (fail)
    go_wp2
    exact bodyPost_ret (v := .tuple #[.agg #[.int .i64 0, .int .i64 0, .int .i64 0, .int .i64 0, .int .i64 0, .int .i64 0, .int .i64 0], .int .i64 0, .bool false]) (by simp [results, Try.results21, go_sem]) rfl ⟨rfl, bel7 (below_drewN (below_alloc (Below.refl _ _) _) _) _ _ _ _ _ _ _⟩
  · obtain rfl : x0 = 0 := by omega
    obtain rfl : x1 = 0 := by omega
    go_enter Try.func21, Try.ntmps21
    go_wp2_with fail
    go_quiet (fail)
    go_wp2_with fail
    refine (HD.out _ (below_drewN (below_alloc (Below.refl _ _) _) _)).mono ?_
    rintro x w1 ⟨rfl, hb1⟩
    have HB1 := hideIt (below_join (below_drewN (below_alloc (Below.refl w.heap.size w) _) _) hb1)
    obtain ⟨hc1, hf1⟩ := bcell hb1
    have hz1 : w.heap.size < w1.heap.size := by have := hb1.size; simp at this; omega
    have HE1 := hideIt ((evIn_new w _).below (by simp) hb1)
    clear hb1
    go_wp2_with fail
    generalize hW2 : World.setCell (World.setCell (World.setCell (World.setCell (World.setCell (World.setCell (World.setCell _ _ _) _ _) _ _) _ _) _ _) _ _) _ _ = W2
    have HI : EvIn W2 w.heap.size ⟨0, 0, 0, 0, 0, 0, 0⟩ := by
      rw [← hW2]
      exact HE1.out.set ⟨0, 0, 0, 0, 0, 0, 0⟩
    have HB2 : Hid (Below w.heap.size w W2) := by rw [← hW2]; exact bel7 HB1.out _ _ _ _ _ _ _
    obtain ⟨k0, k1, k2, k3, k4, k5, k6, kf, hz2⟩ := HI
    simp only at k0 k1 k2 k3 k4 k5 k6
    clear hW2 hc1 hf1 HB1 HE1
    go_quiet (fail)
    go_wp2
    exact bodyPost_ret (v := .tuple #[.agg #[.int .i64 0, .int .i64 0, .int .i64 0, .int .i64 0, .int .i64 0, .int .i64 0, .int .i64 0], .int .i64 0, .bool false]) (by simp [results, Try.results21, go_sem, k0, k1, k2, k3, k4, k5, k6]) rfl ⟨rfl, bel7 (below_drewN HB2.out _) _ _ _ _ _ _ _⟩

theorem own_none (v : Value) : v.ownBlock = none ∨ v.ownBlock ≠ none := by cases v.ownBlock <;> simp

theorem first_any (v : Value) (l : List Nat) (w : World) (hq : ByQ w v l) (hl : l.length ≤ 70000) :
    Calls Try.prog 21 #[v] w fun e w' => e = .returned (fstV l) ∧ Below w.heap.size w w' := by
  by_cases h6 : l.length < 6
  · exact first_short_any v l w hq h6
  · obtain ⟨hB, ⟨rfl, _⟩ | ⟨b, o, c, rfl, hc, hb, hA⟩⟩ := hq
    · simp at h6
    · by_cases hc6 : c = 6
      · subst hc6
        exact first_six_any b o l w hB (by omega) hb hA
      · exact first_long_any b o c l w hB hc hb hA hl (by omega) hc6

set_option maxHeartbeats 2000000 in
set_option maxRecDepth 100000 in
theorem recover_any (v : Value) (l : List Nat) (w : World) (hq : ByQ w v l) (hl : l.length ≤ 70000) :
    Calls Try.prog 9 #[v] w fun e w' => ∃ v', e = .returned (.tuple #[v', .int .i64 ((recL l).2 : Nat)]) ∧ w'.ownsRow w.heap.size 38 7 v' (recL l).1.length (evCells (recL l).1) ∧ Below w.heap.size w w' := by
  obtain ⟨i0, hi, hz0, hz1, hz2⟩ := info_parts' infoE
  have HF := hideIt (fun W v m (hm : ByQ W v m) (hlm : m.length ≤ 70000) => first_any v m W hm hlm)
  have HQ := hideIt hq
  have hrl := (rec_spec l.length l (Nat.le_refl _)).2.1
  obtain ⟨hB, ⟨rfl, a0, c0, rfl, hn0⟩ | ⟨b, o, c, rfl, hc, hb, hA⟩⟩ := hq
  · have hfs : fstV ([] : List Nat) = .tuple #[.agg #[.int .i64 0, .int .i64 0, .int .i64 0, .int .i64 0, .int .i64 0, .int .i64 0, .int .i64 0], .int .i64 0, .bool false] := rfl
    have hrr : recL ([] : List Nat) = ([], 0) := rec_none (b := []) rfl
    rw [hrr]
    clear hrl
    go_enter Try.func9, Try.ntmps9
    go_wp2
    go_loopw [4, 5] (fun x i wr => x = .slice none 0 0 ∧ i = .int .i64 0 ∧ wr = w) (fun _ _ _ => 0)
    case atStart => exact ⟨rfl, rfl, rfl⟩
    case round =>
      obtain ⟨rfl, rfl, rfl⟩ := hrel
      go_wp2_with fail
      refine (HF.out _ _ [] HQ.out (by simp)).mono ?_
      rw [hfs]
      rintro y w1 ⟨rfl, hb1⟩
      have HB1 := hideIt hb1
      clear hb1
      go_wp2
      go_ret2
      exact ⟨_, rfl, World.ownsRow_nil _ _ _ _, below_alloc HB1.out _⟩
  · have HA := hideIt hA
    clear hA
    go_enter Try.func9, Try.ntmps9
    go_wp2
    go_loopw [4, 5] (fun x i wr => ∃ (k : Nat) (es : List Ev), k ≤ l.length ∧ es.length ≤ k ∧ i = .int .i64 k ∧ recL l = (es ++ (recL (l.drop k)).1, k + (recL (l.drop k)).2) ∧ wr.ownsRow w.heap.size 38 7 x es.length (evCells es) ∧ Below w.heap.size w wr) (fun _ i _ => l.length - (intOf i).toNat)
    case atStart => exact ⟨0, [], Nat.zero_le _, Nat.le_refl _, rfl, by simp, World.ownsRow_nil _ _ _ _, Below.refl _ _⟩
    case round =>
      obtain ⟨k, es, hk, hes, rfl, hrec, hown, hnx⟩ := hrel
      have HR := hideIt hrec
      have HO := hideIt hown
      have HN := hideIt hnx
      have hsz := hnx.size
      clear hrec hown hnx
      by_cases hck : c = k
      · subst hck
        have hd : l.drop c = [] := List.drop_eq_nil_of_le (by omega)
        have hfs : fstV ([] : List Nat) = .tuple #[.agg #[.int .i64 0, .int .i64 0, .int .i64 0, .int .i64 0, .int .i64 0, .int .i64 0, .int .i64 0], .int .i64 0, .bool false] := rfl
        have HRR : Hid (recL l = (es, c)) := by
          show recL l = (es, c)
          rw [HR.out, hd, rec_none (b := []) rfl]; simp
        rw [HRR.out] at hrl
        have hlc : l.length - c = 0 := by omega
        go_wp2_with fail
        refine (HF.out _ _ [] ⟨fun _ h => (List.not_mem_nil h).elim, Or.inr ⟨b, o, 0, rfl, Nat.le_refl _, Nat.lt_of_lt_of_le hb hsz, fun i hi => absurd hi (Nat.not_lt_zero _)⟩⟩ (by simp)).mono ?_
        rw [hfs]
        rintro y w1 ⟨rfl, hb1⟩
        have HB1 := hideIt (below_join HN.out hb1)
        have HO1 := hideIt (HO.out.kept (grown_of_below hb1 none) (own_none _))
        clear hb1
        go_wp2
        go_ret2
        exact ⟨u4, by rw [HRR.out]; rfl, by rw [HRR.out]; exact HO1.out.alloc _, below_alloc HB1.out _⟩
      · have HQk := hideIt (show ByQ wr (.slice (some ⟨b, o + k, none⟩) (l.length - k) (c - k)) (l.drop k) from ⟨hB.drop k, Or.inr ⟨b, o + k, c - k, by simp, by simp; omega, Nat.lt_of_lt_of_le hb hsz, (HA.out.drop k).below hb HN.out⟩⟩)
        cases hf : firstL (l.drop k) with
        | none =>
          have hfs : fstV (l.drop k) = .tuple #[.agg #[.int .i64 0, .int .i64 0, .int .i64 0, .int .i64 0, .int .i64 0, .int .i64 0, .int .i64 0], .int .i64 0, .bool false] := by unfold fstV; rw [hf]; rfl
          have HRR : Hid (recL l = (es, k)) := by
            show recL l = (es, k)
            rw [HR.out, rec_none hf]; simp
          rw [HRR.out] at hrl
          clear hf
          go_wp2_with fail
          refine (HF.out _ _ _ HQk.out (by simp; omega)).mono ?_
          rw [hfs]
          rintro y w1 ⟨rfl, hb1⟩
          have HB1 := hideIt (below_join HN.out hb1)
          have HO1 := hideIt (HO.out.kept (grown_of_below hb1 none) (own_none _))
          clear hb1 hfs
          go_wp2
          go_ret2
          exact ⟨u4, by rw [HRR.out]; rfl, by rw [HRR.out]; exact HO1.out.alloc _, below_alloc HB1.out _⟩
        | some q =>
          obtain ⟨⟨ep, et, ek, ed, ea, eb, er⟩, n⟩ := q
          obtain ⟨_, hn1, hn2, _⟩ := first_spec hf
          have hn3 : n ≤ l.length - k := by simpa using hn2
          have hn4 : 6 ≤ n := by omega
          have hfs : fstV (l.drop k) = .tuple #[.agg #[.int .i64 ep, .int .i64 et, .int .i64 ek, .int .i64 ed, .int .i64 ea, .int .i64 eb, .int .i64 er], .int .i64 (n : Nat), .bool true] := by unfold fstV; rw [hf]; rfl
          have HRR : Hid (recL l = ((es ++ [⟨ep, et, ek, ed, ea, eb, er⟩]) ++ (recL (l.drop (k + n))).1, (k + n) + (recL (l.drop (k + n))).2)) := by
            show recL l = _
            rw [HR.out, rec_some hf, List.drop_drop]; simp; omega
          clear hf hn1 hn2
          go_wp2_with fail
          refine (HF.out _ _ _ HQk.out (by simp; omega)).mono ?_
          rw [hfs]
          rintro y w1 ⟨rfl, hb1⟩
          have HB1 := hideIt (below_join HN.out hb1)
          have HO1 := hideIt (HO.out.kept (grown_of_below hb1 none) (own_none _))
          have hsz1 := HB1.out.size
          clear hb1 hfs
          go_wp2_with (at_builtin; refine wpList_append_own _ rfl _ _ 22 rfl w.heap.size 38 i0 _ 7 56 Try.underlying22 hi hz0 hz1 hz2 rfl (by decide) _ _ _ rfl ((HO1.out.alloc _).alloc _) ⟨w1.heap.size + 1, 0, none⟩ 1 1 [.int .i64 ep, .int .i64 et, .int .i64 ek, .int .i64 ed, .int .i64 ea, .int .i64 eb, .int .i64 er] rfl rfl ?c1 ?c2 ?c3 ?c4 ?c5 ?_)
          case c1 =>
            intro j u hj
            match j, hj with
            | 0, hj => simp at hj; subst hj; simp [Addr.add]
            | 1, hj => simp at hj; subst hj; simp [Addr.add]
            | 2, hj => simp at hj; subst hj; simp [Addr.add]
            | 3, hj => simp at hj; subst hj; simp [Addr.add]
            | 4, hj => simp at hj; subst hj; simp [Addr.add]
            | 5, hj => simp at hj; subst hj; simp [Addr.add]
            | 6, hj => simp at hj; subst hj; simp [Addr.add]
            | n + 7, hj => simp at hj
          case c2 => intro u hu; simp at hu; rcases hu with rfl | rfl | rfl | rfl | rfl | rfl | rfl <;> rfl
          case c3 => unfold maxLen; omega
          case c4 => omega
          case c5 => simp; omega
          intro v' w2 hown' hgrow _
          have R1 : Hid (w2.ownsRow w.heap.size 38 7 v' (es ++ [⟨ep, et, ek, ed, ea, eb, er⟩] : List Ev).length (evCells (es ++ [⟨ep, et, ek, ed, ea, eb, er⟩]))) := by
            show w2.ownsRow w.heap.size 38 7 v' (es ++ [⟨ep, et, ek, ed, ea, eb, er⟩] : List Ev).length (evCells (es ++ [⟨ep, et, ek, ed, ea, eb, er⟩]))
            rw [evCells_snoc, List.length_append]; exact hown'
          have R2 : Hid (Below w.heap.size w w2) := ((HB1.out.alloc hsz1 _).alloc (by simp; omega) _).grown hgrow (by simp; omega) (fun g hg => (HO1.out.lt g hg).1)
          clear hown' hgrow
          go_wp2
          go_roundw
          case rel => exact ⟨k + n, es ++ [⟨ep, et, ek, ed, ea, eb, er⟩], by omega, by simp; omega, by go_num, HRR.out, R1.out, R2.out⟩
          case measure => simp [intOf]; omega

end Go.Proofs.Ytdncnljcihblbab
