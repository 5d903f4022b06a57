/-
  slices.IndexFunc and slices.DeleteFunc at a row of numbers of one's own, and the closure of Serial, walked.
  The program's Serial, walked.
-/
import Derived.Test.YtaopigjhdkdklaaDoorIkWZ
import Derived.Lib.SliceRun
import Derived.Test.YtaopigjhdkdklaaDoorIaW
namespace Go.Proofs.YtaopigjhdkdklaaDoor
open Go.RowKit

/-- The first place of what is so, -1 if nothing is. -/
def idxF (p : Int → Bool) (l : List Int) : Int := if l.any p then (l.findIdx p : Int) else -1
theorem findIdx_le' {p : Int → Bool} : ∀ {l : List Int} {k : Nat} (hk : k < l.length), p l[k] = true → l.findIdx p ≤ k
  | a :: l, 0, _, h => by
    have h : p a = true := h
    rw [List.findIdx_cons, h]; simp
  | a :: l, k + 1, hk, h => by
    have := findIdx_le' (l := l) (k := k) (by simpa using hk) h
    rw [List.findIdx_cons]
    cases p a
    · simp; omega
    · simp
theorem idxF_first {p : Int → Bool} {l : List Int} {k : Nat} (hk : k < l.length) (he : p l[k] = true) (hn : ∀ j (h : j < l.length), j < k → p l[j] = false) : idxF p l = (k : Int) := by
  have ha : l.any p = true := List.any_eq_true.2 ⟨_, List.getElem_mem hk, he⟩
  unfold idxF
  rw [if_pos ha]
  have h1 : l.findIdx p < l.length := List.findIdx_lt_length_of_exists ⟨_, List.getElem_mem hk, he⟩
  have h2 : p l[l.findIdx p] = true := List.findIdx_getElem
  have h3 : ¬ l.findIdx p < k := fun h => by rw [hn _ h1 h] at h2; cases h2
  have h4 := findIdx_le' hk he
  omega
theorem idxF_none {p : Int → Bool} {l : List Int} (hn : ∀ j (h : j < l.length), p l[j] = false) : idxF p l = -1 := by
  unfold idxF
  rw [if_neg]
  intro h
  obtain ⟨x, hx, hp⟩ := List.any_eq_true.1 h
  obtain ⟨j, hj, e⟩ := List.getElem_of_mem hx
  rw [← e, hn j hj] at hp; cases hp

set_option maxRecDepth 100000 in
set_option maxHeartbeats 1000000 in
theorem indexFunc_any (p : Int → Bool) (xs : List Int) (hn : xs.length ≤ 60) (a : Option Addr) (cap Bc : Nat) (w : World) (h : IntsQ w a xs)
    (hF : ∀ x ∈ xs, Calls Tryd.prog 44 #[.int .i64 x, .pointer (some ⟨Bc, 0, none⟩)] w fun e w' => e = .returned (.bool (p x)) ∧ w' = w) :
    Calls Tryd.prog 68 #[.slice a xs.length cap, .func (.func 44) #[] #[.pointer (some ⟨Bc, 0, none⟩)]] w fun e w' => e = .returned (.int .i64 (idxF p xs)) ∧ w' = w := by
  have HR := hideIt h
  have HF := hideIt (fun k (hk : k < xs.length) => idxF_first (p := p) hk)
  have HN := hideIt (idxF_none (p := p) (l := xs))
  have HC := hideIt hF
  generalize idxF p xs = r at *
  clear h hF
  go_enter Tryd.func68, Tryd.ntmps68
  go_wp2
  go_loopw [8] (fun v wr => ∃ k : Nat, k ≤ xs.length ∧ v = .int .i64 k ∧ (∀ j (h : j < xs.length), j < k → p xs[j] = false) ∧ wr = w) (fun v _ => xs.length - (intOf v).toNat)
  case atStart => exact ⟨0, Nat.zero_le _, rfl, fun j _ hj => absurd hj (by omega), rfl⟩
  case round =>
    obtain ⟨k, hk, rfl, ha, rfl⟩ := hrel
    have HA := hideIt ha
    clear ha
    by_cases hkn : k < xs.length
    · obtain ⟨g, off, rfl, hg, c0⟩ := HR.out.at hkn
      have hkn' : (k : Int) < xs.length := by omega
      have HCk := hideIt (HC.out _ (List.getElem_mem hkn))
      have HFk := hideIt (fun h => HF.out k hkn h HA.out)
      have R1 : Hid (p xs[k] = false → ∀ j (h : j < xs.length), j < k + 1 → p xs[j] = false) := fun e j h hj => by
        by_cases e' : j = k
        · subst e'; exact e
        · exact HA.out j h (by omega)
      generalize xs[k] = y at *
      go_wp2_with fail
      refine HCk.out.mono ?_
      rintro e w1 ⟨rfl, rfl⟩
      cases hp : p y
      · go_wp2
        go_roundw
        case rel => exact ⟨k + 1, by omega, by go_num, R1.out hp, trivial⟩
        case measure => simp [intOf]; omega
      · go_wp2
        go_ret
        exact ⟨ret_int (HFk.out hp).symm, rfl⟩
    · have HE := hideIt (HN.out fun j hj => HA.out j hj (by omega))
      obtain rfl : k = xs.length := by omega
      go_wp2
      go_ret
      exact ⟨ret_int HE.out.symm, rfl⟩

/-- What the compaction has come to: of the first j those that stay, and behind them what is left. -/
structure DelAt (w : World) (g off n : Nat) (F : List Int) (j : Nat) (xs : List Int) : Prop where
  blk : ∃ cur, w.heap[g]? = some (.cells cur 3 (0, 0)) ∧ off + n ≤ cur.size
  kept : ∀ t (h : t < F.length), w.cell? ⟨g, off + t, none⟩ = some (.int .i64 F[t])
  left : ∀ t (h : t < xs.length), j ≤ t → w.cell? ⟨g, off + t, none⟩ = some (.int .i64 xs[t])
theorem DelAt.fz {w : World} {g off n : Nat} {F : List Int} {j : Nat} {xs : List Int} (h : DelAt w g off n F j xs) (i : Nat) : w.frozen? ⟨g, i, none⟩ = false := by
  obtain ⟨cur, hc, _⟩ := h.blk
  exact frozen_of_row w g i cur 3 hc
theorem DelAt.some {w : World} {g off n : Nat} {F : List Int} {j : Nat} {xs : List Int} (h : DelAt w g off n F j xs) {i : Nat} (hi : i < n) : ∃ v, w.cell? ⟨g, off + i, none⟩ = some v := by
  obtain ⟨cur, hc, hs⟩ := h.blk
  exact ⟨_, (cell_of_row w g _ cur 3 _ hc).trans (Array.getElem?_eq_getElem (by omega))⟩
theorem DelAt.put {w : World} {g off n : Nat} {F : List Int} {j : Nat} {xs : List Int} (h : DelAt w g off n F j xs) (hF : F.length ≤ j) (hj : F.length < n) (x : Int) : DelAt (w.setCell ⟨g, off + F.length, none⟩ (.int .i64 x)) g off n (F ++ [x]) (j + 1) xs := by
  obtain ⟨v, hv⟩ := h.some hj
  obtain ⟨cur, hc, hs⟩ := h.blk
  obtain ⟨cur', hc', hs'⟩ := heap_setCell hc (off + F.length) (.int .i64 x)
  refine ⟨⟨cur', hc', by omega⟩, fun t ht => ?_, fun t ht hjt => ?_⟩
  · by_cases e : t = F.length
    · subst e
      rw [List.getElem_append_right (Nat.le_refl _)]
      simp only [Nat.sub_self, List.getElem_cons_zero]
      exact World.cell?_setCell_same _ _ _ hv
    · have ht' : t < F.length := by simp at ht; omega
      rw [World.cell?_setCell_other _ _ _ _ (offN (by omega)), List.getElem_append_left ht']
      exact h.kept t ht'
  · rw [World.cell?_setCell_other _ _ _ _ (offN (by omega))]
    exact h.left t ht (by omega)

def DelTold (base : Nat) (F : List Int) (w : World) (e : Ending) (w' : World) : Prop := ∃ v', e = .returned v' ∧ RowAt w' base v' F ∧ Below base w w'

set_option maxRecDepth 100000 in
set_option maxHeartbeats 2000000 in
theorem deleteFunc_any (p : Int → Bool) (xs : List Int) (hn : xs.length ≤ 60) (base : Nat) (v : Value) (Bc : Nat) (w : World) (h : RowAt w base v xs) (hbase : base ≤ w.heap.size)
    (hF : ∀ Z, (∀ b, v.ownBlock ≠ some b → Z.heap[b]? = w.heap[b]?) → Below base w Z → ∀ x ∈ xs, Calls Tryd.prog 44 #[.int .i64 x, .pointer (some ⟨Bc, 0, none⟩)] Z fun e w' => e = .returned (.bool (p x)) ∧ w' = Z) :
    Calls Tryd.prog 43 #[v, .func (.func 44) #[] #[.pointer (some ⟨Bc, 0, none⟩)]] w fun e w' => DelTold base (xs.filter fun x => !p x) w e w' := by
  have hq : ∃ a cap, v = .slice a xs.length cap ∧ xs.length ≤ cap ∧ IntsQ w a xs := by
    rcases h with ⟨rfl, rfl⟩ | ⟨g, off, cap, cur, rfl, h0, hh, h1, _, _, h5⟩
    · exact ⟨none, 0, rfl, Nat.le_refl _, .inl rfl⟩
    · exact ⟨_, cap, rfl, h1, .inr ⟨g, off, rfl, lt_of_heap hh, h5⟩⟩
  obtain ⟨a, cap, rfl, hcap, hi⟩ := hq
  have HI := hideIt (indexFunc_any p xs hn a cap Bc w hi (hF w (fun _ _ => rfl) (Below.refl _ _)))
  have HF := hideIt hF
  have HRw := hideIt h
  clear hF h
  go_enter Tryd.func43, Tryd.ntmps43
  go_wp2_with fail
  refine HI.out.mono ?_
  rintro e w1 ⟨rfl, rfl⟩
  clear HI
  by_cases hany : xs.any p = true
  · obtain ⟨x0, hx0, hp0⟩ := List.any_eq_true.1 hany
    have hi1 : xs.findIdx p < xs.length := List.findIdx_lt_length_of_exists ⟨x0, hx0, hp0⟩
    have hi2 : p xs[xs.findIdx p] = true := List.findIdx_getElem
    have hix : idxF p xs = (xs.findIdx p : Int) := by unfold idxF; rw [if_pos hany]
    have hi3 : ∀ j (h : j < xs.length), j < xs.findIdx p → p xs[j] = false := fun j hj hlt => by
      cases hc : p xs[j]
      · rfl
      · have := findIdx_le' hj hc; omega
    rw [hix]
    clear hix hx0 hp0 hany
    generalize xs.findIdx p = i0 at *
    have hf0 : (xs.take (i0 + 1)).filter (fun x => !p x) = xs.take i0 := by
      rw [List.take_add_one, List.getElem?_eq_getElem hi1, List.filter_append]
      have h1 : (xs.take i0).filter (fun x => !p x) = xs.take i0 := List.filter_eq_self.2 fun x hx => by
        obtain ⟨j, hj, e⟩ := List.getElem_of_mem hx
        rw [List.length_take] at hj
        rw [← e, List.getElem_take, hi3 j (by omega) (by omega)]; rfl
      rw [h1]
      simp [hi2]
    have HF0 := hideIt hf0
    have hne : ((i0 : Int) == -1) = false := by rw [beq_eq_false_iff_ne]; omega
    clear hf0
    have HLt : Hid (∀ j, i0 < j → j ≤ xs.length → ((xs.take j).filter (fun x => !p x)).length < j) := fun j h1 h2 => by
      have hl : (xs.take j).length = j := by rw [List.length_take]; omega
      have : ((xs.take j).filter (fun x => !p x)).length < (xs.take j).length := List.length_filter_lt_length_iff_exists.2 ⟨xs[i0], List.mem_take_iff_getElem.2 ⟨i0, by omega, rfl⟩, by simp [hi2]⟩
      omega
    have HSu : Hid (∀ j (h : j < xs.length), (xs.take (j + 1)).filter (fun x => !p x) = (xs.take j).filter (fun x => !p x) ++ if p xs[j] = true then [] else [xs[j]]) := fun j h => by
      rw [List.take_add_one, List.getElem?_eq_getElem h, List.filter_append]
      cases hc : p xs[j] <;> simp [hc]
    have HAll : Hid ((xs.take xs.length).filter (fun x => !p x) = xs.filter fun x => !p x) := by rw [List.take_length]; rfl
    rcases HRw.out with ⟨e1, e2⟩ | ⟨g, off, cap', cur, e1, hbg, hh, h1, h2, h3, h5⟩
    · subst e2; simp at hi1
    injection e1 with e1 _ e3
    subst e1 e3
    have HD0 : Hid (DelAt w1 g off cap ((xs.take (i0 + 1)).filter (fun x => !p x)) (i0 + 1) xs) := by
      rw [HF0.out]
      refine ⟨⟨cur, hh, h2⟩, fun t ht => ?_, fun t ht _ => h5 t ht⟩
      rw [List.getElem_take]
      rw [List.length_take] at ht
      exact h5 t (by omega)
    have HL0 : Hid (((xs.take (i0 + 1)).filter (fun x => !p x)).length = i0) := by
      rw [HF0.out, List.length_take]
      show min i0 xs.length = i0
      omega
    have HFz : Hid (∀ Z, (∀ b, b ≠ g → Z.heap[b]? = w1.heap[b]?) → Below base w1 Z → ∀ x ∈ xs, Calls Tryd.prog 44 #[.int .i64 x, .pointer (some ⟨Bc, 0, none⟩)] Z fun e w' => e = .returned (.bool (p x)) ∧ w' = Z) := fun Z hZ hb => HF.out Z (fun b hb' => hZ b (fun e => hb' (by rw [e]; rfl))) hb
    clear HF HRw hi h5 hi3 hi2 HF0 hh
    unfold maxLen at h3
    go_wp2
    go_loopw [5, 6] (fun i j wr => ∃ m : Nat, i0 < m ∧ m ≤ xs.length ∧ j = .int .i64 m ∧ i = .int .i64 (((xs.take m).filter (fun x => !p x)).length : Nat) ∧ DelAt wr g off cap ((xs.take m).filter (fun x => !p x)) m xs ∧ (∀ b, b ≠ g → wr.heap[b]? = w1.heap[b]?) ∧ Below base w1 wr) (fun _ j _ => xs.length - (intOf j).toNat)
    case atStart => exact ⟨i0 + 1, by omega, by omega, by go_num, by rw [HL0.out], HD0.out, fun _ _ => rfl, Below.refl _ _⟩
    case round =>
      clear HD0 HL0
      obtain ⟨m, hm0, hm, rfl, rfl, hD, hk, hb⟩ := hrel
      have HD := hideIt hD
      have HK := hideIt hk
      have HB := hideIt hb
      have hlm := HLt.out m hm0 hm
      clear hD hk hb
      by_cases hml : m < xs.length
      · have hml' : (m : Int) < xs.length := by omega
        have c0 := HD.out.left m hml (Nat.le_refl _)
        have HC := hideIt (HFz.out _ HK.out HB.out _ (List.getElem_mem hml))
        have HS1 := hideIt (HSu.out m hml)
        generalize xs[m] = y at *
        generalize hFm : (xs.take m).filter (fun x => !p x) = F at *
        go_wp2_with fail
        refine HC.out.mono ?_
        rintro e w2 ⟨rfl, rfl⟩
        cases hp : p y
        · rw [hp] at HS1
          obtain ⟨ov, hov⟩ := HD.out.some (i := F.length) (by omega)
          have hfz := HD.out.fz (off + F.length)
          have HD1 := hideIt (HD.out.put (by omega) (by omega) y)
          have HK1 : Hid (∀ b, b ≠ g → (w2.setCell ⟨g, off + F.length, none⟩ (.int .i64 y)).heap[b]? = w1.heap[b]?) := fun b hb => (Below.heap_setCell _ ⟨g, off + F.length, none⟩ _ b hb).trans (HK.out b hb)
          have HB1 := hideIt (HB.out.setCell (p := ⟨g, off + F.length, none⟩) hbg (.int .i64 y))
          have hlF : (F.length : Int) < xs.length := by omega
          clear HD HK HB
          go_wp2
          go_roundw
          case rel => exact ⟨m + 1, by omega, by omega, by go_num, by rw [HS1.out]; simp, by rw [HS1.out]; exact HD1.out, HK1.out, HB1.out⟩
          case measure => simp [intOf]; omega
        · rw [hp] at HS1
          have HD1 : Hid (DelAt w2 g off cap F (m + 1) xs) := ⟨HD.out.blk, HD.out.kept, fun t ht h => HD.out.left t ht (by omega)⟩
          go_wp2
          go_roundw
          case rel => exact ⟨m + 1, by omega, by omega, by go_num, by rw [HS1.out]; simp, by rw [HS1.out]; simpa using HD1.out, HK.out, HB.out⟩
          case measure => simp [intOf]; omega
      · obtain rfl : m = xs.length := by omega
        rw [HAll.out] at HD hlm ⊢
        generalize hFm : xs.filter (fun x => !p x) = F at *
        have hcl := Lib.run_clear_slice (P := Tryd.prog) wr 52 3 0 (.int .i64 0) Tryd.underlying52 (fun w => Tryd.zeroValue3 w) rfl rfl g (off + F.length) (xs.length - F.length) (cap - F.length) (by omega)
          (fun j hj => by obtain ⟨v, hv⟩ := HD.out.some (i := F.length + j) (by omega); rw [Nat.add_assoc, hv]; rfl) (fun j _ => HD.out.fz _)
        have n1 : ¬ cap = F.length := by omega
        have n2 : ¬ F.length = cap := by omega
        go_wp2
        go_ret
        have hbF : Below base w1 (wr.setCells g (off + F.length) (List.replicate (xs.length - F.length) (.int .i64 0))) := HB.out.grown (grown_setCells _ _ _ _) (by have := HB.out.size; omega) (fun k hk => by cases hk; exact hbg)
        obtain ⟨cur2, hc2, hs2⟩ := HD.out.blk
        obtain ⟨cur3, hc3, hs3⟩ := heap_setCells (List.replicate (xs.length - F.length) (.int .i64 0)) (off + F.length) wr _ hc2
        have hs4 : cur3.size = cur2.size := by simpa using hs3
        refine ⟨_, rfl, .inr ⟨g, off, cap, cur3, by rw [hFm]; rfl, hbg, hc3, by rw [hFm]; omega, by omega, by unfold maxLen; omega, fun j hj => ?_⟩, hbF⟩
        rw [World.cell?_setCells_out _ _ _ _ _ (fun _ _ => .inl (by show off + j < off + F.length; rw [← hFm]; omega))]
        simp only [hFm] at hj ⊢
        exact HD.out.kept j hj
  · have hx : idxF p xs = -1 := by unfold idxF; rw [if_neg hany]
    have HFl : Hid (xs.filter (fun x => !p x) = xs) := List.filter_eq_self.2 fun x hx => by
      cases hp : p x
      · rfl
      · exact absurd (List.any_eq_true.2 ⟨x, hx, hp⟩) hany
    rw [hx]
    clear hany hx
    go_wp2
    go_ret
    exact ⟨_, rfl, by rw [HFl.out]; exact HRw.out, Below.refl _ _⟩
end Go.Proofs.YtaopigjhdkdklaaDoor

namespace Go.Proofs.YtaopigjhdkdklaaDoor
open Go.RowKit

set_option maxRecDepth 100000 in
theorem ser1_any (s : ISt) (a b : Option Addr) (ca cb Bc q i : Nat) (w : World) (h : StyQ w a ca b cb s) (hc : w.cell? ⟨Bc, 0, none⟩ = some (.func (.func 61) #[] #[.pointer (some ⟨q, 0, none⟩)])) (hq : w.cell? ⟨q, 0, none⟩ = some (.slice a s.txs.length ca)) (hi : i < s.txs.length) :
    Calls Tryd.prog 44 #[.int .i64 (i : Int), .pointer (some ⟨Bc, 0, none⟩)] w fun e w' => e = .returned (.bool (!comI s i)) ∧ w' = w := by
  have HC := hideIt (commits_any s a b ca cb q i w h hq hi)
  clear h hq
  go_enter Tryd.func44, Tryd.ntmps44
  go_wp2_with fail
  refine HC.out.mono ?_
  rintro e w1 ⟨rfl, rfl⟩
  go_wp2
  go_ret
  exact ⟨rfl, rfl⟩
/-- All edges together. -/
def edB (s : ISt) : Nat → Nat → Bool := orR (orR (ovB s) (seB s)) (anB s)
def serR (s : ISt) : List (List Bool) := matN s.txs.length (edB s)
/-- What Serial tells: an error, or those that commit, in order. -/
def serG (s : ISt) : Int := if fltI s = 0 then oG (serR s) else fltI s
def serV (s : ISt) : List Int := if serG s = 0 then (natI (oL (serR s))).filter (comI s) else []
def SerTold (s : ISt) (w : World) (e : Ending) (w' : World) : Prop :=
  ∃ v, e = .returned (.tuple #[v, toldV (serG s)]) ∧ HasI w' v (serV s) ∧ Below w.heap.size w w'

set_option maxRecDepth 100000 in
set_option maxHeartbeats 4000000 in
theorem serial_any (s : ISt) (a b : Option Addr) (ca cb : Nat) (w : World) (h : StyQ w a ca b cb s) :
    Calls Tryd.prog 19 #[.agg #[.slice a s.txs.length ca, .slice b s.ord.length cb]] w fun e w' => SerTold s w e w' := by
  have HS := hideIt h
  have HB : Hid (Below w.heap.size w (w.alloc (.cells #[.slice a s.txs.length ca, .slice b s.ord.length cb] 44))) := belA (Below.refl _ _) _
  obtain ⟨c0, c1⟩ := box2 w (.slice a s.txs.length ca) (.slice b s.ord.length cb) 44
  have HA := hideIt (all_any s a b ca cb _ (h.below HB.out))
  clear h
  unfold AllTold at HA
  go_enter Tryd.func19, Tryd.ntmps19
  go_wp2_with fail
  refine HA.out.mono ?_
  rintro e w1 ⟨v1, v2, v3, rfl, hR, hN, hb1⟩
  have HB1 := hideIt (belJ HB.out hb1)
  have d0 := (hb1.cell (p := ⟨w.heap.size, 0, none⟩) (World.block_lt_of_cell? _ _ c0)).trans c0
  have d1 := (hb1.cell (p := ⟨w.heap.size, 1, none⟩) (World.block_lt_of_cell? _ _ c1)).trans c1
  clear HA hb1 c0 c1 HB
  by_cases hf : fltI s = 0
  · have ok := iOk_of hf
    have h8 := ok.few
    obtain ⟨R1, R2, R3⟩ := hR hf
    clear hN hR
    have HG : Hid (serG s = oG (serR s)) := by unfold serG; rw [if_pos hf]; rfl
    rw [hf, show toldV 0 = .nilIface from rfl]
    have HR1 := hideIt (R1.below (belA (Below.refl _ _) (.cells #[v1, v2, v3] 58)))
    have HR2 := hideIt (R2.below (belA (Below.refl _ _) (.cells #[v1, v2, v3] 58)))
    have HR3 := hideIt (R3.below (belA (Below.refl _ _) (.cells #[v1, v2, v3] 58)))
    have HB2 := hideIt (belA HB1.out (.cells #[v1, v2, v3] 58))
    have f0 := cellA (o := .cells #[v1, v2, v3] 58) d0
    have f1 := cellA (o := .cells #[v1, v2, v3] 58) d1
    have hbe := heap_alloc_new w1 (.cells #[v1, v2, v3] 58)
    obtain ⟨a1, p1, e1, _⟩ := R1
    obtain ⟨a2, p2, e2, _⟩ := R2
    obtain ⟨a3, p3, e3, _⟩ := R3
    subst e1 e2 e3
    clear d0 d1
    go_upto_region 2 with fail
    generalize w1.alloc _ = W2 at HR1 HR2 HR3 HB2 f0 f1 hbe ⊢
    have x0 : W2.cell? ⟨w1.heap.size, 0, none⟩ = some (.slice a1 s.txs.length p1) := cell_of_row _ _ _ _ 58 _ hbe
    have x1 : W2.cell? ⟨w1.heap.size, 1, none⟩ = some (.slice a2 s.txs.length p2) := cell_of_row _ _ _ _ 58 _ hbe
    have x2 : W2.cell? ⟨w1.heap.size, 2, none⟩ = some (.slice a3 s.txs.length p3) := cell_of_row _ _ _ _ 58 _ hbe
    have HX : Hid (∀ Z, Below W2.heap.size W2 Z → Z.cell? ⟨w1.heap.size, 0, none⟩ = some (.slice a1 s.txs.length p1) ∧ Z.cell? ⟨w1.heap.size, 1, none⟩ = some (.slice a2 s.txs.length p2) ∧ Z.cell? ⟨w1.heap.size, 2, none⟩ = some (.slice a3 s.txs.length p3)) := fun Z hZ => ⟨(hZ.cell (p := ⟨w1.heap.size, 0, none⟩) (lt_of_heap hbe)).trans x0, (hZ.cell (p := ⟨w1.heap.size, 1, none⟩) (lt_of_heap hbe)).trans x1, (hZ.cell (p := ⟨w1.heap.size, 2, none⟩) (lt_of_heap hbe)).trans x2⟩
    clear x0 x1 x2 hbe
    go_upto_region 4 with fail
    go_cut [6, 5] from 16 to 27 (fun x y wx => ∃ vo, x = vo ∧ y = toldV (oG (serR s)) ∧ RowAt wx W2.heap.size vo (natI (oL (serR s))) ∧ Below W2.heap.size W2 wx)
    case first =>
      refine wp_region_held_drew (S := (fun w' => Below W2.heap.size W2 w')) (by kernel_rfl) (Below.refl _ _).drew (fun hHeld => ?_)
      refine wpAnyH_take (i := 0) (v := ?_) rfl (by kernel_rfl) (by kernel_rfl) (by kernel_rfl) (fun _ _ _ h => h) (Or.inl ⟨by rfl, ?_⟩) (by assumption) ?_
      rotate_left 1
      · intro wz sb
        obtain ⟨y0, y1, y2⟩ := HX.out wz sb
        go_simp
        all_goals with_reducible rfl
      simp only [Act.put, List.setIfInBounds_toArray, List.set_cons_zero, List.set_cons_succ, List.getElem_toArray, List.getElem_cons_zero]
      refine wpAnyH_take (i := 1) (v := ?_) rfl (by kernel_rfl) (by kernel_rfl) (by kernel_rfl) (fun _ _ _ h => h) (Or.inl ⟨by rfl, ?_⟩) (by assumption) ?_
      rotate_left 1
      · intro wz sb
        obtain ⟨y0, y1, y2⟩ := HX.out wz sb
        go_simp
        all_goals with_reducible rfl
      simp only [Act.put, List.setIfInBounds_toArray, List.set_cons_zero, List.set_cons_succ, List.getElem_toArray, List.getElem_cons_zero, List.getElem_cons_succ]
      refine wpAnyH_take (i := 2) (v := ?_) rfl (by kernel_rfl) (by kernel_rfl) (by kernel_rfl) (fun _ _ _ h => h) (Or.inl ⟨by rfl, ?_⟩) (by assumption) ?_
      rotate_left 1
      · intro wz sb
        obtain ⟨y0, y1, y2⟩ := HX.out wz sb
        go_simp
        all_goals with_reducible rfl
      simp only [Act.put, List.setIfInBounds_toArray, List.set_cons_zero, List.set_cons_succ, List.getElem_toArray, List.getElem_cons_zero, List.getElem_cons_succ]
      refine wpAnyH_take (i := 3) (v := ?_) rfl (by kernel_rfl) (by kernel_rfl) (by kernel_rfl) (fun _ _ _ h => h) (Or.inl ⟨by rfl, ?_⟩) (by assumption) ?_
      rotate_left 1
      · intro wz sb
        obtain ⟨y0, y1, y2⟩ := HX.out wz sb
        go_simp
        all_goals with_reducible rfl
      simp only [Act.put, List.setIfInBounds_toArray, List.set_cons_zero, List.set_cons_succ, List.getElem_toArray, List.getElem_cons_zero, List.getElem_cons_succ]
      refine wpAnyH_take (i := 5) (v := ?_) rfl (by kernel_rfl) (by kernel_rfl) (by kernel_rfl) (fun _ _ _ h => h) (Or.inl ⟨by rfl, ?_⟩) (by assumption) ?_
      rotate_left 1
      · intro wz sb
        obtain ⟨y0, y1, y2⟩ := HX.out wz sb
        go_simp
        all_goals with_reducible rfl
      simp only [Act.put, List.setIfInBounds_toArray, List.set_cons_zero, List.set_cons_succ, List.getElem_toArray, List.getElem_cons_zero, List.getElem_cons_succ]
      refine wpAnyH_take (i := 6) (v := ?_) rfl (by kernel_rfl) (by kernel_rfl) (by kernel_rfl) (fun _ _ _ h => h) (Or.inl ⟨by rfl, ?_⟩) (by assumption) ?_
      rotate_left 1
      · intro wz sb
        obtain ⟨y0, y1, y2⟩ := HX.out wz sb
        go_simp
        all_goals with_reducible rfl
      simp only [Act.put, List.setIfInBounds_toArray, List.set_cons_zero, List.set_cons_succ, List.getElem_toArray, List.getElem_cons_zero, List.getElem_cons_succ]
      generalize W2.drew = Y0 at hHeld ⊢
      refine wpAnyH_ready (rs := [4]) (by kernel_rfl) (by simp) (AllReadyH.cons rfl (fun K hK => ?_) AllReadyH.nil)
      go_simp
      refine (together_any s.txs.length (by omega) (ovB s) (seB s) _ _ Y0 (HR1.out.below hHeld) (HR2.out.below hHeld)).mono ?_
      rintro e Y1 ⟨Ba, ra, rfl, ma, hba⟩
      refine hK.out _ _ ?_ (fun hHeld => ?_)
      · exact belJ hHeld hba
      clear hK K
      refine wpAnyH_ready (rs := [7]) (by kernel_rfl) (by simp) (AllReadyH.cons rfl (fun K hK => ?_) AllReadyH.nil)
      go_simp
      refine (together_any s.txs.length (by omega) (orR (ovB s) (seB s)) (anB s) _ _ Y1 ma.readM (HR3.out.below hHeld)).mono ?_
      rintro e Y2 ⟨Bb, rb, rfl, mb, hbb⟩
      refine hK.out _ _ ?_ (fun hHeld => ?_)
      · exact belJ hHeld hbb
      clear hK K
      obtain ⟨ga, gc, eg, hgq⟩ := grQ_readN mb.readM
      injection eg with eg _ eg2
      subst eg eg2
      have hOr := gOrder_any (matN s.txs.length (orR (orR (ovB s) (seB s)) (anB s))) (some ⟨Bb, 0, none⟩) s.txs.length Y2 (matN_max (by omega) _).1 (matN_max (by omega) _).2 hgq
      rw [matN_len] at hOr
      refine wpAnyH_ready (rs := [8]) (by kernel_rfl) (by simp) (AllReadyH.cons rfl (fun K hK => ?_) AllReadyH.nil)
      go_simp
      refine hOr.mono ?_
      rintro e Y3 ⟨vo, rfl, hRo, hbo⟩
      refine hK.out _ _ ?_ (fun hHeld => ?_)
      · exact belJ hHeld hbo
      clear hK K hOr
      have hYs : W2.heap.size ≤ Y2.heap.size := by have h1 := hba.size; have h2 := hbb.size; have h3 := (show Below W2.heap.size W2 Y2 by assumption).size; omega
      refine wpAnyH_take (i := 9) (v := ?_) rfl (by kernel_rfl) (by kernel_rfl) (by kernel_rfl) (fun _ _ _ h => h) (Or.inl ⟨by rfl, ?_⟩) (by assumption) ?_
      rotate_left 1
      · intro wz sb
        clear sb
        go_simp
        all_goals with_reducible rfl
      simp only [Act.put, List.setIfInBounds_toArray, List.set_cons_zero, List.set_cons_succ, List.getElem_toArray, List.getElem_cons_zero, List.getElem_cons_succ]
      refine wpAnyH_take (i := 10) (v := ?_) rfl (by kernel_rfl) (by kernel_rfl) (by kernel_rfl) (fun _ _ _ h => h) (Or.inl ⟨by rfl, ?_⟩) (by assumption) ?_
      rotate_left 1
      · intro wz sb
        clear sb
        go_simp
        all_goals with_reducible rfl
      simp only [Act.put, List.setIfInBounds_toArray, List.set_cons_zero, List.set_cons_succ, List.getElem_toArray, List.getElem_cons_zero, List.getElem_cons_succ]
      refine wpAnyH_take (i := 11) (v := ?_) rfl (by kernel_rfl) (by kernel_rfl) (by kernel_rfl) (fun _ _ _ h => h) (Or.inl ⟨by rfl, ?_⟩) (by assumption) ?_
      rotate_left 1
      · intro wz sb
        clear sb
        go_simp
        all_goals with_reducible rfl
      simp only [Act.put, List.setIfInBounds_toArray, List.set_cons_zero, List.set_cons_succ, List.getElem_toArray, List.getElem_cons_zero, List.getElem_cons_succ]
      refine wpAnyH_ready (rs := [12]) (by kernel_rfl) (by simp) (AllReadyH.cons rfl (fun K hK => ?_) AllReadyH.nil)
      go_simp
      refine hK.out _ _ ?_ (fun hHeld => ?_)
      · exact hHeld
      clear hK K
      refine wpAnyH_ready (rs := [13]) (by kernel_rfl) (by simp) (AllReadyH.cons rfl (fun K hK => ?_) AllReadyH.nil)
      go_simp
      refine hK.out _ _ ?_ (fun hHeld => ?_)
      · exact hHeld
      clear hK K
      refine wpAnyH_done (by kernel_rfl) ?_ _
      go_wp2
      go_meet
      exact ⟨_, rfl, rfl, hRo.base hYs, hHeld⟩
    case rest =>
      rename World => W3
      obtain ⟨vo, rfl, rfl, hRo, hb3⟩ := hcut
      have HRo := hideIt hRo
      have HB3 := hideIt (belJ HB2.out hb3)
      have g0 := (hb3.cell (p := ⟨w.heap.size, 0, none⟩) (World.block_lt_of_cell? W2 _ f0)).trans f0
      have g1 := (hb3.cell (p := ⟨w.heap.size, 1, none⟩) (World.block_lt_of_cell? W2 _ f1)).trans f1
      have hs23 := hb3.size
      have hlo : w.heap.size < W2.heap.size := World.block_lt_of_cell? W2 _ f0
      clear HX HR1 HR2 HR3 f0 f1 hRo hb3
      by_cases ho : oG (serR s) = 0
      · have HG0 : Hid (serG s = 0) := by rw [HG.out]; exact ho
        have HV : Hid (serV s = (natI (oL (serR s))).filter (comI s)) := by unfold serV; rw [if_pos HG0.out]; rfl
        rw [ho, show toldV 0 = .nilIface from rfl]
        have hord : ∃ L, ordG (gB (serR s)) s.txs.length s.txs.length = some L ∧ oL (serR s) = L := by
          have hk : ckG (serR s) = 0 := matN_ok (by omega) _
          unfold oG at ho
          unfold oL
          rw [if_pos hk] at ho ⊢
          rw [show (serR s).length = s.txs.length from matN_len _ _] at ho ⊢
          cases hq : ordG (gB (serR s)) s.txs.length s.txs.length with
          | none => rw [hq] at ho; simp at ho
          | some L => exact ⟨L, rfl, rfl⟩
        obtain ⟨L, hL, hLe⟩ := hord
        rw [hLe] at HRo HV
        have hlt := (ordG_ok hL).2.lt
        have hll := (ordG_ok hL).1
        have HCm := hideIt (committing_any _ a b s.txs.length ca s.ord.length cb W3 rfl)
        clear ho hLe
        go_wp2_with fail
        refine HCm.out.mono ?_
        rintro e w4 ⟨rfl, rfl⟩
        have hb34 : Below W3.heap.size W3 ((W3.alloc (.cells #[.slice a s.txs.length ca, .slice b s.ord.length cb] 44)).alloc (.cells #[.func (.func 61) #[] #[.pointer (some ⟨W3.heap.size, 0, none⟩)]] 100)) := belA (belA (Below.refl _ _) _) _
        have HB4 := hideIt (belJ HB3.out hb34)
        have HR4 := hideIt (HRo.out.belowR hb34)
        have k0 := cellA (o := .cells #[.func (.func 61) #[] #[.pointer (some ⟨W3.heap.size, 0, none⟩)]] 100) (box2 W3 (.slice a s.txs.length ca) (.slice b s.ord.length cb) 44).1
        have k1 := box1 (W3.alloc (.cells #[.slice a s.txs.length ca, .slice b s.ord.length cb] 44)) (.func (.func 61) #[] #[.pointer (some ⟨W3.heap.size, 0, none⟩)]) 100
        rw [World.size_alloc] at k1
        have hs4 : W3.heap.size ≤ ((W3.alloc (.cells #[.slice a s.txs.length ca, .slice b s.ord.length cb] 44)).alloc (.cells #[.func (.func 61) #[] #[.pointer (some ⟨W3.heap.size, 0, none⟩)]] 100)).heap.size := hb34.size
        have HOb : Hid (∀ x, u6.ownBlock = some x → x < W3.heap.size) := fun x hx => (HRo.out.lt x hx).2
        have HDl := hideIt (deleteFunc_any (fun x => !comI s x) (natI L) (by simp [natI]; omega) W2.heap.size u6 (W3.heap.size + 1) ((W3.alloc (.cells #[.slice a s.txs.length ca, .slice b s.ord.length cb] 44)).alloc (.cells #[.func (.func 61) #[] #[.pointer (some ⟨W3.heap.size, 0, none⟩)]] 100)) HR4.out (by omega) (fun Z hZ hbZ x hx => by
          obtain ⟨t, ht, rfl⟩ : ∃ t, t ∈ L ∧ (t : Int) = x := by simpa [natI] using hx
          refine ser1_any s a b ca cb (W3.heap.size + 1) W3.heap.size t Z (HS.out.below (HB4.out.trans (hbZ.mono (by omega)))) ?_ ?_ (hlt t ht)
          · exact (World.cell?_of_block (a := ⟨W3.heap.size + 1, 0, none⟩) (hZ (W3.heap.size + 1) (fun e => by have := HOb.out _ e; omega))).trans k1
          · exact (World.cell?_of_block (a := ⟨W3.heap.size, 0, none⟩) (hZ W3.heap.size (fun e => by have := HOb.out _ e; omega))).trans k0))
        unfold DelTold at HDl
        have HFl : Hid ((natI L).filter (fun x => !!comI s x) = serV s) := by
          rw [HV.out]
          show _ = _
          congr 1
          funext x
          simp
        clear HR4 HRo k0 k1 hb34 HCm g0 g1 hlt hL hll
        go_wp2_with fail
        refine HDl.out.mono ?_
        rintro e w5 ⟨v5, rfl, hR5, hb5⟩
        have HR5 := hideIt hR5
        have HB5 := hideIt (HB4.out.trans (hb5.mono (by omega)))
        clear HDl hR5 hb5
        go_wp2
        go_ret2
        exact ⟨_, by rw [HG0.out]; rfl, by rw [← HFl.out]; exact HR5.out.hasI, HB5.out⟩
      · have HG0 : Hid (serG s ≠ 0) := by rw [HG.out]; exact ho
        have HV : Hid (serV s = []) := by unfold serV; rw [if_neg HG0.out]; rfl
        rw [told_ne ho]
        go_wp2
        go_ret2
        exact ⟨_, by rw [HG.out, told_ne ho]; rfl, by rw [HV.out]; exact hasI_nil _, HB3.out⟩
  · obtain ⟨rfl, rfl, rfl⟩ := hN hf
    have HG : Hid (serG s = fltI s) := by unfold serG; rw [if_neg hf]; rfl
    have HV : Hid (serV s = []) := by unfold serV; rw [if_neg (by rw [HG.out]; exact hf)]; rfl
    have HBE := hideIt (belA HB1.out (.cells #[.slice none 0 0, .slice none 0 0, .slice none 0 0] 58))
    rw [told_ne hf]
    clear hR hN d0 d1
    go_wp2
    go_ret2
    exact ⟨_, by rw [HG.out, told_ne hf]; rfl, by rw [HV.out]; exact hasI_nil _, HBE.out⟩
end Go.Proofs.YtaopigjhdkdklaaDoor
