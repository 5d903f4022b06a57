/-
  How much of the tape a generator uses: what stands in it bounds it.
-/
import Derived.Test.YthblokfiojccmaaGreatDoorGnH
namespace Go.Proofs.YthblokfiojccmaaGreatDoor.Gn

def wtF : Nat → Gt → Nat
  | 0, _ => 0
  | _ + 1, .rd _ => 0
  | _ + 1, .wr _ _ _ => 1
  | n + 1, .lim g _ => wtF n g
  | n + 1, .mix l => (l.map fun g => 1 + wtF n g).sum
  | n + 1, .thn l => (l.map (wtF n)).sum

theorem Tp.on_u (t : Tp) (n : Int) : (t.on n).u ≤ t.u + 1 := by
  unfold Tp.on; split
  · omega
  · exact Nat.le_refl _

theorem sum_set (f : Gt → Nat) : ∀ (l : List Gt) (i : Nat) (h : i < l.length) (g : Gt), ((l.set i g).map f).sum + f l[i] = (l.map f).sum + f g
  | x :: l, 0, _, g => by simp; omega
  | x :: l, i + 1, h, g => by
    have := sum_set f l i (by simpa using h) g
    simp only [List.set_cons_succ, List.map_cons, List.sum_cons, List.getElem_cons_succ]
    omega
theorem sum_erase (f : Gt → Nat) : ∀ (l : List Gt) (i : Nat) (h : i < l.length), ((l.eraseIdx i).map f).sum + f l[i] = (l.map f).sum
  | x :: l, 0, _ => by simp; omega
  | x :: l, i + 1, h => by
    have := sum_erase f l i (by simpa using h)
    simp only [List.eraseIdx_cons_succ, List.map_cons, List.sum_cons, List.getElem_cons_succ]
    omega

theorem mixF_use {nx : Gt → Tp → Gv} {f : Gt → Nat} (h : ∀ g t, (nx g t).t.u ≤ t.u + f g ∧ f (nx g t).g ≤ f g) : ∀ (k : Nat) (l : List Gt) (t : Tp), k = l.length →
    (mixF nx k l t).t.u ≤ t.u + (l.map fun g => 1 + f g).sum ∧ ∃ l', (mixF nx k l t).g = .mix l' ∧ (l'.map fun g => 1 + f g).sum ≤ (l.map fun g => 1 + f g).sum
  | 0, l, t, _ => ⟨Nat.le_add_right _ _, l, rfl, Nat.le_refl _⟩
  | k + 1, l, t, hk => by
    have hl : (0 : Int) < l.length := by omega
    have hi : (t.below l.length).toNat < l.length := by have := Tp.below_lt (t := t) hl; omega
    have hg : l.getD (t.below l.length).toNat (.rd 0) = l[(t.below l.length).toNat] := by rw [List.getD_eq_getElem?_getD, List.getElem?_eq_getElem hi]; rfl
    obtain ⟨e1, e2⟩ := h l[(t.below l.length).toNat] (t.on l.length)
    have hon := Tp.on_u t l.length
    simp only [mixF]
    rw [hg]
    cases e : (nx l[(t.below l.length).toNat] (t.on l.length)).c with
    | some c =>
      have hs := sum_set (fun g => 1 + f g) l _ hi (nx l[(t.below l.length).toNat] (t.on l.length)).g
      have he := sum_erase (fun g => 1 + f g) l _ hi
      refine ⟨?_, _, rfl, by omega⟩
      simp only
      omega
    | none =>
      have he := sum_erase (fun g => 1 + f g) l _ hi
      obtain ⟨a, l', b, c⟩ := mixF_use h k (l.eraseIdx (t.below l.length).toNat) (nx l[(t.below l.length).toNat] (t.on l.length)).t (by rw [List.length_eraseIdx_of_lt hi]; omega)
      refine ⟨?_, l', b, by omega⟩
      simp only
      omega
theorem thnF_use {nx : Gt → Tp → Gv} {f : Gt → Nat} (h : ∀ g t, (nx g t).t.u ≤ t.u + f g ∧ f (nx g t).g ≤ f g) : ∀ (l : List Gt) (t : Tp),
    (thnF nx l t).t.u ≤ t.u + (l.map f).sum ∧ ∃ l', (thnF nx l t).g = .thn l' ∧ (l'.map f).sum ≤ (l.map f).sum
  | [], t => ⟨Nat.le_add_right _ _, [], rfl, Nat.le_refl _⟩
  | g :: l, t => by
    obtain ⟨e1, e2⟩ := h g t
    simp only [thnF]
    cases e : (nx g t).c with
    | some c => 
      refine ⟨?_, _, rfl, by simp; omega⟩
      simp only [List.map_cons, List.sum_cons]
      omega
    | none =>
      obtain ⟨a, l', b, c⟩ := thnF_use h l (nx g t).t
      refine ⟨?_, l', b, ?_⟩ <;> simp only [List.map_cons, List.sum_cons] <;> omega

theorem nextF_use : ∀ (n : Nat) (g : Gt) (t : Tp), (nextF n g t).t.u ≤ t.u + wtF n g ∧ wtF n (nextF n g t).g ≤ wtF n g
  | 0, _, t => ⟨Nat.le_refl _, Nat.le_refl _⟩
  | n + 1, .rd _, t => ⟨Nat.le_refl _, Nat.le_refl _⟩
  | n + 1, .wr _ lo hi, t => ⟨Tp.on_u t _, Nat.le_refl _⟩
  | n + 1, .lim g k, t => by
    rw [nextF]
    split
    · exact ⟨Nat.le_add_right _ _, Nat.le_refl _⟩
    · exact nextF_use n g t
  | n + 1, .mix l, t => by
    obtain ⟨a, l', b, c⟩ := mixF_use (f := wtF n) (nextF_use n) l.length l t rfl
    refine ⟨a, ?_⟩
    rw [nextF, b]; exact c
  | n + 1, .thn l, t => by
    obtain ⟨a, l', b, c⟩ := thnF_use (f := wtF n) (nextF_use n) l t
    refine ⟨a, ?_⟩
    rw [nextF, b]; exact c
end Go.Proofs.YthblokfiojccmaaGreatDoor.Gn
