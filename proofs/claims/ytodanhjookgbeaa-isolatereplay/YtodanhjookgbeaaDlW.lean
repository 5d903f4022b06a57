/-
  slices.IndexFunc and slices.DeleteFunc at a row of numbers of one's own, and the closure of Serial, walked.
-/
import Derived.Test.YtodanhjookgbeaaIkWZ
import Derived.Lib.SliceRun
namespace Go.Proofs.Ytodanhjookgbeaa
open Go.RowKit

/-- The first place of what is so, -1 if nothing is. -/
def idxF (p : Int → Bool) (l : List Int) : Int := if l.any p then (l.findIdx p : Int) else -1
theorem findIdx_le' {p : Int → Bool} : ∀ {l : List Int} {k : Nat} (hk : k < l.length), p l[k] = true → l.findIdx p ≤ k
  | a :: l, 0, _, h => by
    have h : p a = true := h
    rw [List.findIdx_cons, h]; simp
  | a :: l, k + 1, hk, h => by
    have := findIdx_le' (l := l) (k := k) (by simpa using hk) h
    rw [List.findIdx_cons]
    cases p a
    · simp; omega
    · simp
theorem idxF_first {p : Int → Bool} {l : List Int} {k : Nat} (hk : k < l.length) (he : p l[k] = true) (hn : ∀ j (h : j < l.length), j < k → p l[j] = false) : idxF p l = (k : Int) := by
  have ha : l.any p = true := List.any_eq_true.2 ⟨_, List.getElem_mem hk, he⟩
  unfold idxF
  rw [if_pos ha]
  have h1 : l.findIdx p < l.length := List.findIdx_lt_length_of_exists ⟨_, List.getElem_mem hk, he⟩
  have h2 : p l[l.findIdx p] = true := List.findIdx_getElem
  have h3 : ¬ l.findIdx p < k := fun h => by rw [hn _ h1 h] at h2; cases h2
  have h4 := findIdx_le' hk he
  omega
theorem idxF_none {p : Int → Bool} {l : List Int} (hn : ∀ j (h : j < l.length), p l[j] = false) : idxF p l = -1 := by
  unfold idxF
  rw [if_neg]
  intro h
  obtain ⟨x, hx, hp⟩ := List.any_eq_true.1 h
  obtain ⟨j, hj, e⟩ := List.getElem_of_mem hx
  rw [← e, hn j hj] at hp; cases hp

set_option maxRecDepth 100000 in
set_option maxHeartbeats 1000000 in
theorem indexFunc_any (p : Int → Bool) (xs : List Int) (hn : xs.length ≤ 60) (a : Option Addr) (cap Bc : Nat) (w : World) (h : IntsQ w a xs)
    (hF : ∀ x ∈ xs, Calls Try.prog 21 #[.int .i64 x, .pointer (some ⟨Bc, 0, none⟩)] w fun e w' => e = .returned (.bool (p x)) ∧ w' = w) :
    Calls Try.prog 34 #[.slice a xs.length cap, .func (.func 21) #[] #[.pointer (some ⟨Bc, 0, none⟩)]] w fun e w' => e = .returned (.int .i64 (idxF p xs)) ∧ w' = w := by
  have HR := hideIt h
  have HF := hideIt (fun k (hk : k < xs.length) => idxF_first (p := p) hk)
  have HN := hideIt (idxF_none (p := p) (l := xs))
  have HC := hideIt hF
  generalize idxF p xs = r at *
  clear h hF
  go_enter Try.func34, Try.ntmps34
  go_wp2
  go_loopw [8] (fun v wr => ∃ k : Nat, k ≤ xs.length ∧ v = .int .i64 k ∧ (∀ j (h : j < xs.length), j < k → p xs[j] = false) ∧ wr = w) (fun v _ => xs.length - (intOf v).toNat)
  case atStart => exact ⟨0, Nat.zero_le _, rfl, fun j _ hj => absurd hj (by omega), rfl⟩
  case round =>
    obtain ⟨k, hk, rfl, ha, rfl⟩ := hrel
    have HA := hideIt ha
    clear ha
    by_cases hkn : k < xs.length
    · obtain ⟨g, off, rfl, hg, c0⟩ := HR.out.at hkn
      have hkn' : (k : Int) < xs.length := by omega
      have HCk := hideIt (HC.out _ (List.getElem_mem hkn))
      have HFk := hideIt (fun h => HF.out k hkn h HA.out)
      have R1 : Hid (p xs[k] = false → ∀ j (h : j < xs.length), j < k + 1 → p xs[j] = false) := fun e j h hj => by
        by_cases e' : j = k
        · subst e'; exact e
        · exact HA.out j h (by omega)
      generalize xs[k] = y at *
      go_wp2_with fail
      refine HCk.out.mono ?_
      rintro e w1 ⟨rfl, rfl⟩
      cases hp : p y
      · go_wp2
        go_roundw
        case rel => exact ⟨k + 1, by omega, by go_num, R1.out hp, trivial⟩
        case measure => simp [intOf]; omega
      · go_wp2
        go_ret
        exact ⟨ret_int (HFk.out hp).symm, rfl⟩
    · have HE := hideIt (HN.out fun j hj => HA.out j hj (by omega))
      obtain rfl : k = xs.length := by omega
      go_wp2
      go_ret
      exact ⟨ret_int HE.out.symm, rfl⟩

/-- What the compaction has come to: of the first j those that stay, and behind them what is left. -/
structure DelAt (w : World) (g off n : Nat) (F : List Int) (j : Nat) (xs : List Int) : Prop where
  blk : ∃ cur, w.heap[g]? = some (.cells cur 3 (0, 0)) ∧ off + n ≤ cur.size
  kept : ∀ t (h : t < F.length), w.cell? ⟨g, off + t, none⟩ = some (.int .i64 F[t])
  left : ∀ t (h : t < xs.length), j ≤ t → w.cell? ⟨g, off + t, none⟩ = some (.int .i64 xs[t])
theorem DelAt.fz {w : World} {g off n : Nat} {F : List Int} {j : Nat} {xs : List Int} (h : DelAt w g off n F j xs) (i : Nat) : w.frozen? ⟨g, i, none⟩ = false := by
  obtain ⟨cur, hc, _⟩ := h.blk
  exact frozen_of_row w g i cur 3 hc
theorem DelAt.some {w : World} {g off n : Nat} {F : List Int} {j : Nat} {xs : List Int} (h : DelAt w g off n F j xs) {i : Nat} (hi : i < n) : ∃ v, w.cell? ⟨g, off + i, none⟩ = some v := by
  obtain ⟨cur, hc, hs⟩ := h.blk
  exact ⟨_, (cell_of_row w g _ cur 3 _ hc).trans (Array.getElem?_eq_getElem (by omega))⟩
theorem DelAt.put {w : World} {g off n : Nat} {F : List Int} {j : Nat} {xs : List Int} (h : DelAt w g off n F j xs) (hF : F.length ≤ j) (hj : F.length < n) (x : Int) : DelAt (w.setCell ⟨g, off + F.length, none⟩ (.int .i64 x)) g off n (F ++ [x]) (j + 1) xs := by
  obtain ⟨v, hv⟩ := h.some hj
  obtain ⟨cur, hc, hs⟩ := h.blk
  obtain ⟨cur', hc', hs'⟩ := heap_setCell hc (off + F.length) (.int .i64 x)
  refine ⟨⟨cur', hc', by omega⟩, fun t ht => ?_, fun t ht hjt => ?_⟩
  · by_cases e : t = F.length
    · subst e
      rw [List.getElem_append_right (Nat.le_refl _)]
      simp only [Nat.sub_self, List.getElem_cons_zero]
      exact World.cell?_setCell_same _ _ _ hv
    · have ht' : t < F.length := by simp at ht; omega
      rw [World.cell?_setCell_other _ _ _ _ (offN (by omega)), List.getElem_append_left ht']
      exact h.kept t ht'
  · rw [World.cell?_setCell_other _ _ _ _ (offN (by omega))]
    exact h.left t ht (by omega)

def DelTold (base : Nat) (F : List Int) (w : World) (e : Ending) (w' : World) : Prop := ∃ v', e = .returned v' ∧ RowAt w' base v' F ∧ Below base w w'

set_option maxRecDepth 100000 in
set_option maxHeartbeats 2000000 in
theorem deleteFunc_any (p : Int → Bool) (xs : List Int) (hn : xs.length ≤ 60) (base : Nat) (v : Value) (Bc : Nat) (w : World) (h : RowAt w base v xs) (hbase : base ≤ w.heap.size)
    (hF : ∀ Z, (∀ b, v.ownBlock ≠ some b → Z.heap[b]? = w.heap[b]?) → Below base w Z → ∀ x ∈ xs, Calls Try.prog 21 #[.int .i64 x, .pointer (some ⟨Bc, 0, none⟩)] Z fun e w' => e = .returned (.bool (p x)) ∧ w' = Z) :
    Calls Try.prog 20 #[v, .func (.func 21) #[] #[.pointer (some ⟨Bc, 0, none⟩)]] w fun e w' => DelTold base (xs.filter fun x => !p x) w e w' := by
  have hq : ∃ a cap, v = .slice a xs.length cap ∧ xs.length ≤ cap ∧ IntsQ w a xs := by
    rcases h with ⟨rfl, rfl⟩ | ⟨g, off, cap, cur, rfl, h0, hh, h1, _, _, h5⟩
    · exact ⟨none, 0, rfl, Nat.le_refl _, .inl rfl⟩
    · exact ⟨_, cap, rfl, h1, .inr ⟨g, off, rfl, lt_of_heap hh, h5⟩⟩
  obtain ⟨a, cap, rfl, hcap, hi⟩ := hq
  have HI := hideIt (indexFunc_any p xs hn a cap Bc w hi (hF w (fun _ _ => rfl) (Below.refl _ _)))
  have HF := hideIt hF
  have HRw := hideIt h
  clear hF h
  go_enter Try.func20, Try.ntmps20
  go_wp2_with fail
  refine HI.out.mono ?_
  rintro e w1 ⟨rfl, rfl⟩
  clear HI
  by_cases hany : xs.any p = true
  · obtain ⟨x0, hx0, hp0⟩ := List.any_eq_true.1 hany
    have hi1 : xs.findIdx p < xs.length := List.findIdx_lt_length_of_exists ⟨x0, hx0, hp0⟩
    have hi2 : p xs[xs.findIdx p] = true := List.findIdx_getElem
    have hix : idxF p xs = (xs.findIdx p : Int) := by unfold idxF; rw [if_pos hany]
    have hi3 : ∀ j (h : j < xs.length), j < xs.findIdx p → p xs[j] = false := fun j hj hlt => by
      cases hc : p xs[j]
      · rfl
      · have := findIdx_le' hj hc; omega
    rw [hix]
    clear hix hx0 hp0 hany
    generalize xs.findIdx p = i0 at *
    have hf0 : (xs.take (i0 + 1)).filter (fun x => !p x) = xs.take i0 := by
      rw [List.take_add_one, List.getElem?_eq_getElem hi1, List.filter_append]
      have h1 : (xs.take i0).filter (fun x => !p x) = xs.take i0 := List.filter_eq_self.2 fun x hx => by
        obtain ⟨j, hj, e⟩ := List.getElem_of_mem hx
        rw [List.length_take] at hj
        rw [← e, List.getElem_take, hi3 j (by omega) (by omega)]; rfl
      rw [h1]
      simp [hi2]
    have HF0 := hideIt hf0
    have hne : ((i0 : Int) == -1) = false := by rw [beq_eq_false_iff_ne]; omega
    clear hf0
    have HLt : Hid (∀ j, i0 < j → j ≤ xs.length → ((xs.take j).filter (fun x => !p x)).length < j) := fun j h1 h2 => by
      have hl : (xs.take j).length = j := by rw [List.length_take]; omega
      have : ((xs.take j).filter (fun x => !p x)).length < (xs.take j).length := List.length_filter_lt_length_iff_exists.2 ⟨xs[i0], List.mem_take_iff_getElem.2 ⟨i0, by omega, rfl⟩, by simp [hi2]⟩
      omega
    have HSu : Hid (∀ j (h : j < xs.length), (xs.take (j + 1)).filter (fun x => !p x) = (xs.take j).filter (fun x => !p x) ++ if p xs[j] = true then [] else [xs[j]]) := fun j h => by
      rw [List.take_add_one, List.getElem?_eq_getElem h, List.filter_append]
      cases hc : p xs[j] <;> simp [hc]
    have HAll : Hid ((xs.take xs.length).filter (fun x => !p x) = xs.filter fun x => !p x) := by rw [List.take_length]; rfl
    rcases HRw.out with ⟨e1, e2⟩ | ⟨g, off, cap', cur, e1, hbg, hh, h1, h2, h3, h5⟩
    · subst e2; simp at hi1
    injection e1 with e1 _ e3
    subst e1 e3
    have HD0 : Hid (DelAt w1 g off cap ((xs.take (i0 + 1)).filter (fun x => !p x)) (i0 + 1) xs) := by
      rw [HF0.out]
      refine ⟨⟨cur, hh, h2⟩, fun t ht => ?_, fun t ht _ => h5 t ht⟩
      rw [List.getElem_take]
      rw [List.length_take] at ht
      exact h5 t (by omega)
    have HL0 : Hid (((xs.take (i0 + 1)).filter (fun x => !p x)).length = i0) := by
      rw [HF0.out, List.length_take]
      show min i0 xs.length = i0
      omega
    have HFz : Hid (∀ Z, (∀ b, b ≠ g → Z.heap[b]? = w1.heap[b]?) → Below base w1 Z → ∀ x ∈ xs, Calls Try.prog 21 #[.int .i64 x, .pointer (some ⟨Bc, 0, none⟩)] Z fun e w' => e = .returned (.bool (p x)) ∧ w' = Z) := fun Z hZ hb => HF.out Z (fun b hb' => hZ b (fun e => hb' (by rw [e]; rfl))) hb
    clear HF HRw hi h5 hi3 hi2 HF0 hh
    unfold maxLen at h3
    go_wp2
    go_loopw [5, 6] (fun i j wr => ∃ m : Nat, i0 < m ∧ m ≤ xs.length ∧ j = .int .i64 m ∧ i = .int .i64 (((xs.take m).filter (fun x => !p x)).length : Nat) ∧ DelAt wr g off cap ((xs.take m).filter (fun x => !p x)) m xs ∧ (∀ b, b ≠ g → wr.heap[b]? = w1.heap[b]?) ∧ Below base w1 wr) (fun _ j _ => xs.length - (intOf j).toNat)
    case atStart => exact ⟨i0 + 1, by omega, by omega, by go_num, by rw [HL0.out], HD0.out, fun _ _ => rfl, Below.refl _ _⟩
    case round =>
      clear HD0 HL0
      obtain ⟨m, hm0, hm, rfl, rfl, hD, hk, hb⟩ := hrel
      have HD := hideIt hD
      have HK := hideIt hk
      have HB := hideIt hb
      have hlm := HLt.out m hm0 hm
      clear hD hk hb
      by_cases hml : m < xs.length
      · have hml' : (m : Int) < xs.length := by omega
        have c0 := HD.out.left m hml (Nat.le_refl _)
        have HC := hideIt (HFz.out _ HK.out HB.out _ (List.getElem_mem hml))
        have HS1 := hideIt (HSu.out m hml)
        generalize xs[m] = y at *
        generalize hFm : (xs.take m).filter (fun x => !p x) = F at *
        go_wp2_with fail
        refine HC.out.mono ?_
        rintro e w2 ⟨rfl, rfl⟩
        cases hp : p y
        · rw [hp] at HS1
          obtain ⟨ov, hov⟩ := HD.out.some (i := F.length) (by omega)
          have hfz := HD.out.fz (off + F.length)
          have HD1 := hideIt (HD.out.put (by omega) (by omega) y)
          have HK1 : Hid (∀ b, b ≠ g → (w2.setCell ⟨g, off + F.length, none⟩ (.int .i64 y)).heap[b]? = w1.heap[b]?) := fun b hb => (Below.heap_setCell _ ⟨g, off + F.length, none⟩ _ b hb).trans (HK.out b hb)
          have HB1 := hideIt (HB.out.setCell (p := ⟨g, off + F.length, none⟩) hbg (.int .i64 y))
          have hlF : (F.length : Int) < xs.length := by omega
          clear HD HK HB
          go_wp2
          go_roundw
          case rel => exact ⟨m + 1, by omega, by omega, by go_num, by rw [HS1.out]; simp, by rw [HS1.out]; exact HD1.out, HK1.out, HB1.out⟩
          case measure => simp [intOf]; omega
        · rw [hp] at HS1
          have HD1 : Hid (DelAt w2 g off cap F (m + 1) xs) := ⟨HD.out.blk, HD.out.kept, fun t ht h => HD.out.left t ht (by omega)⟩
          go_wp2
          go_roundw
          case rel => exact ⟨m + 1, by omega, by omega, by go_num, by rw [HS1.out]; simp, by rw [HS1.out]; simpa using HD1.out, HK.out, HB.out⟩
          case measure => simp [intOf]; omega
      · obtain rfl : m = xs.length := by omega
        rw [HAll.out] at HD hlm ⊢
        generalize hFm : xs.filter (fun x => !p x) = F at *
        have hcl := Lib.run_clear_slice (P := Try.prog) wr 32 3 0 (.int .i64 0) Try.underlying32 (fun w => Try.zeroValue3 w) rfl rfl g (off + F.length) (xs.length - F.length) (cap - F.length) (by omega)
          (fun j hj => by obtain ⟨v, hv⟩ := HD.out.some (i := F.length + j) (by omega); rw [Nat.add_assoc, hv]; rfl) (fun j _ => HD.out.fz _)
        have n1 : ¬ cap = F.length := by omega
        have n2 : ¬ F.length = cap := by omega
        go_wp2
        go_ret
        have hbF : Below base w1 (wr.setCells g (off + F.length) (List.replicate (xs.length - F.length) (.int .i64 0))) := HB.out.grown (grown_setCells _ _ _ _) (by have := HB.out.size; omega) (fun k hk => by cases hk; exact hbg)
        obtain ⟨cur2, hc2, hs2⟩ := HD.out.blk
        obtain ⟨cur3, hc3, hs3⟩ := heap_setCells (List.replicate (xs.length - F.length) (.int .i64 0)) (off + F.length) wr _ hc2
        have hs4 : cur3.size = cur2.size := by simpa using hs3
        refine ⟨_, rfl, .inr ⟨g, off, cap, cur3, by rw [hFm]; rfl, hbg, hc3, by rw [hFm]; omega, by omega, by unfold maxLen; omega, fun j hj => ?_⟩, hbF⟩
        rw [World.cell?_setCells_out _ _ _ _ _ (fun _ _ => .inl (by show off + j < off + F.length; rw [← hFm]; omega))]
        simp only [hFm] at hj ⊢
        exact HD.out.kept j hj
  · have hx : idxF p xs = -1 := by unfold idxF; rw [if_neg hany]
    have HFl : Hid (xs.filter (fun x => !p x) = xs) := List.filter_eq_self.2 fun x hx => by
      cases hp : p x
      · rfl
      · exact absurd (List.any_eq_true.2 ⟨x, hx, hp⟩) hany
    rw [hx]
    clear hany hx
    go_wp2
    go_ret
    exact ⟨_, rfl, by rw [HFl.out]; exact HRw.out, Below.refl _ _⟩
end Go.Proofs.Ytodanhjookgbeaa
