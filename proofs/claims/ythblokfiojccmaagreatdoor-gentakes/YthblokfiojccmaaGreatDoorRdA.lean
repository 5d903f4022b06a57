/-
  The reader's expect.
-/
import Derived.Test.YthblokfiojccmaaGreatDoorRdM
namespace Go.Proofs.YthblokfiojccmaaGreatDoor.Gn
open Go.RowKit

def expS (L : List Bt) (x : Bt) (a : Nat) (fl : Int) : Nat × Int := if L.getD a [] = x then (passS L.length a fl, fl) else (passS L.length a (failS fl 3), failS fl 3)

set_option maxHeartbeats 2000000 in
theorem expect_any (w : World) (R S : Nat) (L : List Bt) (a : Nat) (fl : Int) (x : Bt) (h : RdAt w R S L a fl) :
    Calls Tryz.prog 14 #[.pointer (some ⟨R, 0, none⟩), .string (ba x)] w fun e w' => e = .returned (.tuple #[]) ∧ RdAt w' R S L (expS L x a fl).1 (expS L x a fl).2 ∧ Fr [R] w w' := by
  have HH := hideIt h
  have HN := hideIt (next_any w R S L a fl h)
  clear h
  generalize ht : L.getD a [] = t at *
  have HT := hideIt ht
  clear ht
  by_cases hx : t = x
  · subst hx
    go_enter Tryz.func14, Tryz.ntmps14
    go_wp2_with fail
    refine HN.out.mono ?_
    rintro y w1 ⟨rfl, k1, rfl⟩
    go_wp2_with fail
    refine (pass_any _ R S L a fl (HH.out.drewN k1)).mono ?_
    rintro y w2 ⟨rfl, h2, hf2⟩
    have H2 := hideIt h2
    have HF2 := hideIt hf2
    clear h2 hf2
    go_wp2
    go_end0
    have he : expS L t a fl = (passS L.length a fl, fl) := by unfold expS; rw [if_pos HT.out]
    exact ⟨rfl, by rw [he]; exact H2.out, (Fr.drewN _ _ _).trans HF2.out⟩
  · have hb := ba_ne hx
    go_enter Tryz.func14, Tryz.ntmps14
    go_wp2_with fail
    refine HN.out.mono ?_
    rintro y w1 ⟨rfl, k1, rfl⟩
    go_wp2_with fail
    refine (fail_any _ R S L a fl 3 (HH.out.drewN k1)).mono ?_
    rintro y w2 ⟨rfl, h2, hf2⟩
    have H2 := hideIt h2
    have HF2 := hideIt hf2
    clear h2 hf2
    go_wp2_with fail
    refine (pass_any _ R S L a (failS fl 3) H2.out).mono ?_
    rintro y w3 ⟨rfl, h3, hf3⟩
    have H3 := hideIt h3
    have HF3 := hideIt hf3
    clear h3 hf3
    go_wp2
    go_end0
    have he : expS L x a fl = (passS L.length a (failS fl 3), failS fl 3) := by unfold expS; rw [if_neg (by rw [HT.out]; exact hx)]
    exact ⟨rfl, by rw [he]; exact H3.out, ((Fr.drewN _ _ _).trans HF2.out).trans HF3.out⟩
end Go.Proofs.YthblokfiojccmaaGreatDoor.Gn
