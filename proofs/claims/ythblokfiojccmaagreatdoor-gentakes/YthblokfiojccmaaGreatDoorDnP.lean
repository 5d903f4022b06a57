/-
  What a mix and a then give, told in one way: which part is asked, and what stays.
-/
import Derived.Test.YthblokfiojccmaaGreatDoorNxD
namespace Go.Proofs.YthblokfiojccmaaGreatDoor.Gn

def kidG (mx : Bool) (l : List Gt) : Gt := if mx then .mix l else .thn l
def kidI (mx : Bool) (l : List Gt) (t : Tp) : Nat := if mx then (t.below l.length).toNat else 0
def kidT (mx : Bool) (l : List Gt) (t : Tp) : Tp := if mx then t.on l.length else t

theorem kidI_lt (mx : Bool) {l : List Gt} (t : Tp) (h : 0 < l.length) : kidI mx l t < l.length := by
  cases mx with
  | false => exact h
  | true =>
    have := Tp.below_lt (t := t) (n := (l.length : Int)) (by omega)
    show (t.below l.length).toNat < _
    omega
theorem kid_some (mx : Bool) (n : Nat) {l : List Gt} (t : Tp) (h : 0 < l.length) {c : Cl} (hc : (nextF n (l.getD (kidI mx l t) (.rd 0)) (kidT mx l t)).c = some c) :
    nextF (n + 1) (kidG mx l) t = ⟨some c, kidG mx (l.set (kidI mx l t) (nextF n (l.getD (kidI mx l t) (.rd 0)) (kidT mx l t)).g), (nextF n (l.getD (kidI mx l t) (.rd 0)) (kidT mx l t)).t⟩ := by
  cases mx with
  | true =>
    obtain ⟨m, hm⟩ : ∃ m, l.length = m + 1 := ⟨l.length - 1, by omega⟩
    exact (congrArg (fun k => mixF (nextF n) k l t) hm).trans (mixF_some hc)
  | false =>
    cases l with
    | nil => exact absurd h (Nat.not_lt_zero _)
    | cons g l => exact thnF_some hc
theorem kid_none (mx : Bool) (n : Nat) {l : List Gt} (t : Tp) (h : 0 < l.length) (hc : (nextF n (l.getD (kidI mx l t) (.rd 0)) (kidT mx l t)).c = none) :
    nextF (n + 1) (kidG mx l) t = nextF (n + 1) (kidG mx (l.eraseIdx (kidI mx l t))) (nextF n (l.getD (kidI mx l t) (.rd 0)) (kidT mx l t)).t := by
  have hlt := kidI_lt mx t h
  cases mx with
  | true =>
    obtain ⟨m, hm⟩ : ∃ m, l.length = m + 1 := ⟨l.length - 1, by omega⟩
    have hm2 : (l.eraseIdx (t.below l.length).toNat).length = m := by
      rw [List.length_eraseIdx_of_lt (show (t.below l.length).toNat < l.length from hlt)]; omega
    exact ((congrArg (fun k => mixF (nextF n) k l t) hm).trans (mixF_none hc)).trans (congrArg (fun k => mixF (nextF n) k (l.eraseIdx (t.below l.length).toNat) (nextF n (l.getD (t.below l.length).toNat (.rd 0)) (t.on l.length)).t) hm2.symm)
  | false =>
    cases l with
    | nil => exact absurd h (Nat.not_lt_zero _)
    | cons g l => exact thnF_none hc
def kidW (mx : Bool) (n : Nat) (l : List Gt) : Nat := wtF (n + 1) (kidG mx l)
theorem kidT_u (mx : Bool) (n : Nat) {l : List Gt} (t : Tp) (h : 0 < l.length) : (kidT mx l t).u + wtF n (l.getD (kidI mx l t) (.rd 0)) + kidW mx n (l.eraseIdx (kidI mx l t)) ≤ t.u + kidW mx n l := by
  have hlt := kidI_lt mx t h
  have hgd : l.getD (kidI mx l t) (.rd 0) = l[kidI mx l t] := by rw [List.getD_eq_getElem?_getD, List.getElem?_eq_getElem hlt]; rfl
  rw [hgd]
  cases mx with
  | true =>
    have h1 := sum_erase (fun g => 1 + wtF n g) l (kidI true l t) hlt
    have h2 := Tp.on_u t l.length
    show (t.on l.length).u + _ + ((l.eraseIdx (kidI true l t)).map fun g => 1 + wtF n g).sum ≤ t.u + (l.map fun g => 1 + wtF n g).sum
    omega
  | false =>
    have h1 := sum_erase (wtF n) l (kidI false l t) hlt
    show t.u + _ + ((l.eraseIdx (kidI false l t)).map (wtF n)).sum ≤ t.u + (l.map (wtF n)).sum
    omega
end Go.Proofs.YthblokfiojccmaaGreatDoor.Gn
