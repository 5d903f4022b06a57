/-
  The reader's key and write; how its steps are the plain ones.
-/
import Derived.Test.YthblokfiojccmaaGreatDoorRdC
namespace Go.Proofs.YthblokfiojccmaaGreatDoor.Gn
open Go.RowKit

/-- The last sign, and it alone, is the empty one. -/
structure SgEnd (L : List Bt) : Prop where
  last : ∀ a, a < L.length → (L.getD a [] = [] ↔ a + 1 = L.length)
theorem SgEnd.pass {L : List Bt} (h : SgEnd L) {a : Nat} (ha : a < L.length) (hne : L.getD a [] ≠ []) : a + 1 < L.length := by
  have := mt (h.last a ha).2 hne
  omega
theorem getD_lt {L : List Bt} {a : Nat} (h : a < L.length) : L.getD a [] = L[a] := by rw [List.getD_eq_getElem?_getD, List.getElem?_eq_getElem h]; rfl
theorem drop_get {L : List Bt} {a : Nat} (h : a < L.length) : L.drop a = L.getD a [] :: L.drop (a + 1) := by
  rw [List.drop_eq_getElem_cons h, getD_lt h]
theorem passS_ok {L : List Bt} {a : Nat} (h : a + 1 < L.length) : passS L.length a 0 = a + 1 := by unfold passS; rw [if_pos ⟨rfl, h⟩]
theorem passS_bad {n a : Nat} {fl : Int} (h : fl ≠ 0) : passS n a fl = a := by unfold passS; rw [if_neg (fun k => h k.1)]
theorem failS_ok (n : Int) : failS 0 n = n := rfl
theorem failS_bad {fl : Int} (h : fl ≠ 0) (n : Int) : failS fl n = fl := by unfold failS; rw [if_neg h]
theorem isNum_nil : isNum [] = false := by rfl

theorem numS_bad {L : List Bt} {a : Nat} {fl lo hi : Int} (h : fl ≠ 0) : (numS L a fl lo hi).a = a ∧ (numS L a fl lo hi).f = fl := by
  unfold numS
  split
  · split
    · split
      · exact ⟨rfl, failS_bad h _⟩
      · exact ⟨passS_bad h, rfl⟩
    · exact ⟨rfl, failS_bad h _⟩
  · exact ⟨rfl, failS_bad h _⟩
theorem numS_ok {L : List Bt} {a : Nat} {lo hi : Int} {r : Rn} (hE : SgEnd L) (ha : a < L.length) (h : numF lo hi (L.drop a) = some r) : numS L a 0 lo hi = ⟨r.v, a + 1, 0⟩ ∧ L.drop (a + 1) = r.s ∧ a + 1 < L.length ∧ lo ≤ r.v ∧ r.v ≤ hi := by
  rw [drop_get ha] at h
  unfold numS
  simp only [numF] at h
  cases hn : isNum (L.getD a []) with
  | false => rw [hn] at h; simp at h
  | true =>
    have hne : L.getD a [] ≠ [] := fun e => by rw [e, isNum_nil] at hn; cases hn
    have hp := hE.pass ha hne
    rw [hn, if_pos rfl] at h
    rw [if_pos rfl]
    cases hat : Lib.atoiAll (L.getD a []) with
    | ok n =>
      rw [hat] at h
      simp only at h ⊢
      split at h
      · cases h
      · rename_i hb
        cases h
        rw [if_neg hb, passS_ok hp]
        exact ⟨rfl, rfl, hp, by show lo ≤ n; omega, by show n ≤ hi; omega⟩
    | «syntax» => rw [hat] at h; cases h
    | range => rw [hat] at h; cases h
theorem numS_none {L : List Bt} {a : Nat} {lo hi : Int} (ha : a < L.length) (h : numF lo hi (L.drop a) = none) : (numS L a 0 lo hi).a = a ∧ (numS L a 0 lo hi).f ≠ 0 := by
  rw [drop_get ha] at h
  unfold numS
  simp only [numF] at h
  split
  · rename_i hn
    rw [if_pos hn] at h
    split
    · rename_i n hat
      rw [hat] at h
      simp only at h
      split
      · exact ⟨rfl, (by decide : (2 : Int) ≠ 0)⟩
      · rename_i hb
        rw [if_neg hb] at h
        cases h
    · exact ⟨rfl, (by decide : (2 : Int) ≠ 0)⟩
  · exact ⟨rfl, (by decide : (3 : Int) ≠ 0)⟩
theorem expS_ok {L : List Bt} {x : Bt} {a : Nat} {s : List Bt} (hE : SgEnd L) (hx : x ≠ []) (ha : a < L.length) (h : expF x (L.drop a) = some s) : expS L x a 0 = (a + 1, 0) ∧ L.drop (a + 1) = s ∧ a + 1 < L.length := by
  rw [drop_get ha] at h
  simp only [expF] at h
  split at h
  · rename_i e
    cases h
    have hp := hE.pass ha (by rw [e]; exact hx)
    unfold expS
    rw [if_pos e, passS_ok hp]
    exact ⟨rfl, rfl, hp⟩
  · cases h
theorem expS_none {L : List Bt} {x : Bt} {a : Nat} (ha : a < L.length) (h : expF x (L.drop a) = none) : expS L x a 0 = (a, 3) := by
  rw [drop_get ha] at h
  simp only [expF] at h
  split at h
  · cases h
  · rename_i e
    unfold expS
    rw [if_neg e, failS_ok, passS_bad (by decide)]
theorem expS_bad {L : List Bt} {x : Bt} {a : Nat} {fl : Int} (h : fl ≠ 0) : expS L x a fl = (a, fl) := by
  unfold expS
  split
  · rw [passS_bad h]
  · rw [failS_bad h, passS_bad h]

set_option maxHeartbeats 2000000 in
theorem key_any (w : World) (R S : Nat) (L : List Bt) (a : Nat) (fl : Int) (h : RdAt w R S L a fl) (he : RdEnv w R L) :
    Calls Tryz.prog 24 #[.pointer (some ⟨R, 0, none⟩)] w fun e w' => e = .returned (.int .i64 (numS L a fl 0 7).v) ∧ RdAt w' R S L (numS L a fl 0 7).a (numS L a fl 0 7).f ∧ Fr [R] w w' := by
  have HN := hideIt (number_any w R S L a fl 0 7 h he)
  clear h he
  generalize numS L a fl 0 7 = q at *
  go_enter Tryz.func24, Tryz.ntmps24
  go_wp2_with fail
  refine HN.out.mono ?_
  rintro y w1 ⟨rfl, h1, hf1⟩
  have H1 := hideIt h1
  have HF1 := hideIt hf1
  clear h1 hf1
  go_wp2
  go_ret
  exact ⟨rfl, H1.out, HF1.out⟩

structure Ws where
  k : Ns
  l : Ns
  t : Ns
def wrS (L : List Bt) (a : Nat) (fl : Int) : Ws :=
  let k := numS L a fl 0 7
  let l := numS L k.a k.f (-1000000) 1000000
  ⟨k, l, numS L l.a l.f l.v 1000000⟩

set_option maxHeartbeats 4000000 in
theorem write_any (w : World) (R S : Nat) (L : List Bt) (a : Nat) (fl : Int) (h : RdAt w R S L a fl) (he : RdEnv w R L) :
    Calls Tryz.prog 25 #[.pointer (some ⟨R, 0, none⟩)] w fun e w' => e = .returned (.iface 104 (.agg #[.int .i64 (wrS L a fl).k.v, .int .i64 (wrS L a fl).l.v, .int .i64 (wrS L a fl).t.v])) ∧ RdAt w' R S L (wrS L a fl).t.a (wrS L a fl).t.f ∧ Fr [R] w w' := by
  have HE := hideIt he
  have HN := hideIt (key_any w R S L a fl h he)
  have hX : ∀ x ∈ [R], R ≤ x := by simp
  obtain ⟨q, hq⟩ : ∃ q, wrS L a fl = q := ⟨_, rfl⟩
  rw [hq]
  unfold wrS at hq
  simp only at hq
  generalize hk : numS L a fl 0 7 = k at *
  have HL := hideIt (fun W (h : RdAt W R S L k.a k.f) (he : RdEnv W R L) => number_any W R S L k.a k.f (-1000000) 1000000 h he)
  generalize hl : numS L k.a k.f (-1000000) 1000000 = l at *
  have HT := hideIt (fun W (h : RdAt W R S L l.a l.f) (he : RdEnv W R L) => number_any W R S L l.a l.f l.v 1000000 h he)
  generalize ht : numS L l.a l.f l.v 1000000 = t at *
  subst hq
  clear h he hk hl ht
  go_enter Tryz.func25, Tryz.ntmps25
  go_wp2_with fail
  refine HN.out.mono ?_
  rintro y w1 ⟨rfl, h1, hf1⟩
  have H1 := hideIt h1
  have HF1 := hideIt hf1
  have HE1 := hideIt (HE.out.fr hf1 hX)
  clear h1 hf1
  go_wp2_with fail
  refine (HL.out _ H1.out HE1.out).mono ?_
  rintro y w2 ⟨rfl, h2, hf2⟩
  have H2 := hideIt h2
  have HF2 := hideIt (HF1.out.trans hf2)
  have HE2 := hideIt (HE1.out.fr hf2 hX)
  clear h2 hf2
  go_wp2_with fail
  refine (HT.out _ H2.out HE2.out).mono ?_
  rintro y w3 ⟨rfl, h3, hf3⟩
  have H3 := hideIt h3
  have HF3 := hideIt (HF2.out.trans hf3)
  clear h3 hf3
  go_wp2
  go_ret
  exact ⟨rfl, H3.out, HF3.out⟩
end Go.Proofs.YthblokfiojccmaaGreatDoor.Gn
