/-
  The document's reader: a number.
-/
import Derived.Test.YthblokfiojccmaaGreatDoorPrM
import Derived.Test.YthblokfiojccmaaGreatDoorNuW
namespace Go.Proofs.YthblokfiojccmaaGreatDoor.Gn
open Go.RowKit

/-- What the document's reader is asked to hold besides. -/
structure PrEnv (w : World) (P : Nat) (L : List Bt) : Prop where
  err : ErrV w
  pow : PowT w
  g1 : gRng < P
  g2 : gSyn < P
  g3 : gPow < P
  short : ∀ t ∈ L, t.length ≤ 2500
theorem PrEnv.fr {w w' : World} {P : Nat} {L : List Bt} {X : List Nat} (h : PrEnv w P L) (hg : Fr X w w') (hX : ∀ x ∈ X, P ≤ x) : PrEnv w' P L :=
  ⟨h.err.fr hg (fun e => by have := hX _ e; have := h.g1; omega) (fun e => by have := hX _ e; have := h.g2; omega), h.pow.fr hg (fun e => by have := hX _ e; have := h.g3; omega), h.g1, h.g2, h.g3, h.short⟩

/-- What the document's number tells. -/
def PnTold (w : World) (P S : Nat) (L : List Bt) (a : Nat) (lo hi : Int) (e : Ending) (w' : World) : Prop :=
  (∃ r, numF lo hi (L.drop a ++ [[]]) = some r ∧ r.s = L.drop (a + 1) ++ [[]] ∧ e = .returned (.int .i64 r.v) ∧ PrAt w' P S L (a + 1) 0 ∧ Fr [P] w w') ∨
  (numF lo hi (L.drop a ++ [[]]) = none ∧ ∃ n fl', e = .returned (.int .i64 n) ∧ fl' ≠ 0 ∧ PrAt w' P S L a fl' ∧ Fr [P] w w')

theorem numF_end (lo hi : Int) : numF lo hi [[]] = none := by
  simp only [numF]
  rw [show isNum [] = false from rfl]
  rfl
theorem drop_at {L : List Bt} {a : Nat} (h : a < L.length) : L.drop a = L[a] :: L.drop (a + 1) := List.drop_eq_getElem_cons h

set_option maxHeartbeats 8000000 in
set_option maxRecDepth 100000 in
theorem pnumber_any (w : World) (P S : Nat) (L : List Bt) (a : Nat) (lo hi : Int) (h : PrAt w P S L a 0) (he : PrEnv w P L) :
    Calls Tryz.prog 18 #[.pointer (some ⟨P, 0, none⟩), .int .i64 lo, .int .i64 hi] w (PnTold w P S L a lo hi) := by
  have HH := hideIt h
  have c2 := h.c2
  have f0 := h.f0
  obtain ⟨ad, cap, s1, s2, s3⟩ := h.sl
  have hle := h.le
  have hS : S ≠ P := h.ne
  by_cases ha : a < L.length
  · obtain rfl := s3 ha
    obtain ⟨r0, _⟩ := h.row a ha
    have hgt : ¬ ((L.length - a : Nat) : Int) = 0 := by omega
    have hgt0 : (0 : Int) < ((L.length - a : Nat) : Int) := by omega
    have hgt2 : (1 : Int) ≤ ((L.length - a : Nat) : Int) := by omega
    have hgt3 : (1 : Int) ≤ (cap : Int) := by omega
    have HF := hideIt (numF_numD lo hi L[a] (L.drop (a + 1) ++ [[]]))
    have HD : Hid (L.drop a ++ [[]] = L[a] :: (L.drop (a + 1) ++ [[]])) := hideIt (by rw [drop_at ha]; rfl)
    have HN := hideIt (fun W (hv : ErrV W) (hp : PowT W) => number_dany L[a] W (by have := he.short L[a] (List.getElem_mem ha); omega) hv hp)
    have HE := hideIt he
    obtain ⟨od, hod, hod2⟩ : ∃ od, (if cap = 1 then (some ⟨S, a * 2, none⟩ : Option Addr) else some ⟨S, a * 2 + 2, none⟩) = od ∧ (a + 1 < L.length → od = some ⟨S, (a + 1) * 2, none⟩) :=
      ⟨_, rfl, fun h1 => by rw [if_neg (by omega)]; congr 2; omega⟩
    have hln : L.length - a - 1 = L.length - (a + 1) := by omega
    have HO := hideIt (fun W (h : PrAt W P S L a 0) => h.setL (ad := od) (cap := cap - 1) ha (by omega) hod2)
    have hSlt := h.ltS
    have hPlt := h.ltP
    clear h he hod2
    have HX : Hid (PnTold w P S L a lo hi = PnTold w P S L a lo hi) := rfl
    unfold numDV at HN
    cases hn : numD L[a] with
    | none =>
      rw [hn] at HN HF
      have HR : Hid (numF lo hi (L.drop a ++ [[]]) = none) := hideIt (by rw [HD.out, HF.out])
      clear HF HD HX hn
      generalize ba L[a] = bx at *
      go_enter Tryz.func18, Tryz.ntmps18
      go_wp2_with fail
      refine (HN.out _ HE.out.err HE.out.pow).mono ?_
      rintro y w1 ⟨rfl, hf1⟩
      have H1 := hideIt (HH.out.fr hf1 (by simp) (by simp))
      have HF1 := hideIt hf1
      clear hf1
      go_wp2_with fail
      refine (pfail_any w1 P S L a 0 3 H1.out).mono ?_
      rintro y w2 ⟨rfl, h2, hf2⟩
      have H2 := hideIt h2
      have HF2 := hideIt ((HF1.out.more (by simp)).trans hf2)
      clear h2 hf2
      go_wp2
      go_ret
      exact .inr ⟨HR.out, _, 3, rfl, by decide, H2.out, HF2.out⟩
    | some n =>
      rw [hn] at HN HF
      simp only at HN HF
      by_cases hlo : n < lo
      · have HR : Hid (numF lo hi (L.drop a ++ [[]]) = none) := hideIt (by rw [HD.out, HF.out, if_pos (.inl hlo)])
        clear HF HD HX hn
        generalize ba L[a] = bx at *
        go_enter Tryz.func18, Tryz.ntmps18
        go_wp2_with fail
        refine (HN.out _ HE.out.err HE.out.pow).mono ?_
        rintro y w1 ⟨rfl, hf1⟩
        have H1 := hideIt (HH.out.fr hf1 (by simp) (by simp))
        have HF1 := hideIt hf1
        clear hf1
        go_wp2_with fail
        refine (pfail_any w1 P S L a 0 2 H1.out).mono ?_
        rintro y w2 ⟨rfl, h2, hf2⟩
        have H2 := hideIt h2
        have HF2 := hideIt ((HF1.out.more (by simp)).trans hf2)
        clear h2 hf2
        go_wp2
        go_ret
        exact .inr ⟨HR.out, _, 2, rfl, by decide, H2.out, HF2.out⟩
      · by_cases hhi : hi < n
        · have HR : Hid (numF lo hi (L.drop a ++ [[]]) = none) := hideIt (by rw [HD.out, HF.out, if_pos (.inr hhi)])
          have hd1 : decide (n < lo) = false := decide_eq_false hlo
          have hd2 : decide (hi < n) = true := decide_eq_true hhi
          clear HF HD HX hn
          generalize ba L[a] = bx at *
          go_enter Tryz.func18, Tryz.ntmps18
          go_wp2_with fail
          refine (HN.out _ HE.out.err HE.out.pow).mono ?_
          rintro y w1 ⟨rfl, hf1⟩
          have H1 := hideIt (HH.out.fr hf1 (by simp) (by simp))
          have HF1 := hideIt hf1
          clear hf1
          go_wp2_with fail
          refine (pfail_any w1 P S L a 0 2 H1.out).mono ?_
          rintro y w2 ⟨rfl, h2, hf2⟩
          have H2 := hideIt h2
          have HF2 := hideIt ((HF1.out.more (by simp)).trans hf2)
          clear h2 hf2
          go_wp2
          go_ret
          exact .inr ⟨HR.out, _, 2, rfl, by decide, H2.out, HF2.out⟩
        · have HR : Hid (numF lo hi (L.drop a ++ [[]]) = some ⟨n, L.drop (a + 1) ++ [[]]⟩) := hideIt (by rw [HD.out, HF.out, if_neg (by omega)])
          have hd1 : decide (n < lo) = false := decide_eq_false hlo
          have hd2 : decide (hi < n) = false := decide_eq_false hhi
          clear HF HD HX hn
          generalize ba L[a] = bx at *
          go_enter Tryz.func18, Tryz.ntmps18
          go_wp2_with fail
          refine (HN.out _ HE.out.err HE.out.pow).mono ?_
          rintro y w1 ⟨rfl, hf1⟩
          have H1 := hideIt (HO.out w1 (HH.out.fr hf1 (by simp) (by simp)))
          have HF1 := hideIt hf1
          have q1 := (World.cell?_of_block (a := ⟨P, 0, none⟩) (hf1.block P hPlt (by simp))).trans s1
          have q2 := (World.frozen?_of_block (a := ⟨P, 0, none⟩) (hf1.block P hPlt (by simp))).trans f0
          clear hf1
          go_wp2
          go_ret
          exact .inl ⟨_, HR.out, rfl, rfl, H1.out, (HF1.out.more (by simp)).trans (Fr.set _ _ _ (by simp))⟩
  · have hz : L.length - a = 0 := by omega
    have HR : Hid (numF lo hi (L.drop a ++ [[]]) = none) := hideIt (by rw [List.drop_eq_nil_of_le (by omega)]; exact numF_end lo hi)
    have hd : ((L.length - a : Nat) : Int) = 0 := by omega
    rw [hz] at s1
    clear h he
    go_enter Tryz.func18, Tryz.ntmps18
    go_wp2_with fail
    refine (pfail_any w P S L a 0 3 HH.out).mono ?_
    rintro y w2 ⟨rfl, h2, hf2⟩
    have H2 := hideIt h2
    have HF2 := hideIt hf2
    clear h2 hf2
    go_wp2
    go_ret
    exact .inr ⟨HR.out, _, 3, rfl, by decide, H2.out, HF2.out⟩

set_option maxHeartbeats 1000000 in
/-- Behind a fault nothing is read. -/
theorem pnumber_bad (w : World) (P S : Nat) (L : List Bt) (a : Nat) (fl lo hi : Int) (h : PrAt w P S L a fl) (hf : fl ≠ 0) :
    Calls Tryz.prog 18 #[.pointer (some ⟨P, 0, none⟩), .int .i64 lo, .int .i64 hi] w fun e w' => e = .returned (.int .i64 0) ∧ w' = w := by
  have c2 := h.c2
  have hb : (fl == 0) = false := by simp [hf]
  clear h
  go_enter Tryz.func18, Tryz.ntmps18
  go_wp2
  go_ret
  exact ⟨rfl, rfl⟩
end Go.Proofs.YthblokfiojccmaaGreatDoor.Gn
