/-
  What is read: how deep it is, and how much of a tape it uses.
-/
import Derived.Test.YthblokfiojccmaaGreatDoorGpQ
import Derived.Test.YthblokfiojccmaaGreatDoorGnU
namespace Go.Proofs.YthblokfiojccmaaGreatDoor.Gn

def wt1 (f : Nat) (l : List Gt) : Nat := (l.map fun g => 1 + wtF f g).sum
/-- What reading tells of a generator's depth and use. -/
def Reads (f : Nat) (gf : List BtP → Option Rg) : Prop := ∀ s r, gf s = some r → htLe f r.g ∧ wtF f r.g + r.s.length + 1 ≤ s.length
theorem moreF_wt {f : Nat} {gf : List BtP → Option Rg} (hg : Reads f gf) : ∀ (m : Nat) (L : List Gt) (s : List BtP) (r : Rl), moreF gf m L s = some r → (∀ g ∈ L, htLe f g) → (∀ g ∈ r.l, htLe f g) ∧ wt1 f r.l + r.s.length ≤ wt1 f L + s.length
  | 0, _, _, _, h, _ => by cases h
  | _ + 1, _, [], _, h, _ => by cases h
  | m + 1, L, t :: s, r, h, hL => by
    simp only [moreF] at h
    split at h
    · split at h
      · rename_i q hq
        have h1 := hg _ _ hq
        have h2 := moreF_wt hg m _ _ _ h (fun g hg' => by
          rcases List.mem_append.1 hg' with h' | h'
          · exact hL g h'
          · rw [List.mem_singleton] at h'; rw [h']; exact h1.1)
        refine ⟨h2.1, ?_⟩
        have e : wt1 f (L ++ [q.g]) = wt1 f L + (1 + wtF f q.g) := by simp [wt1]
        have h3 := h2.2
        rw [e] at h3
        have h4 := h1.2
        simp only [List.length_cons]
        omega
      · cases h
    · cases h
      exact ⟨hL, Nat.le_refl _⟩
theorem listF_wt {f : Nat} {gf : List BtP → Option Rg} (hg : Reads f gf) {s : List BtP} {r : Rl} (h : listF gf s = some r) : (∀ g ∈ r.l, htLe f g) ∧ wt1 f r.l + r.s.length + 1 ≤ s.length := by
  rw [listF_eq] at h
  split at h
  · cases h
  · rename_i s1 h1
    split at h
    · cases h
    · rename_i q hq
      have k1 := expF_len h1
      have k2 := hg _ _ hq
      unfold finL at h
      split at h
      · cases h
      · rename_i z hz
        have k3 := moreF_wt hg _ _ _ _ hz (fun g hg' => by rw [List.mem_singleton] at hg'; rw [hg']; exact k2.1)
        split at h
        · cases h
        · rename_i y hy
          have k4 := expF_len hy
          cases h
          refine ⟨k3.1, ?_⟩
          have e : wt1 f [q.g] = 1 + wtF f q.g := by simp [wt1]
          have h3 := k3.2
          rw [e] at h3
          have h4 := k2.2
          show wt1 f z.l + y.length + 1 ≤ s.length
          omega
theorem wrF_wt {f : Nat} {s : List BtP} {r : Rg} (h : wrF s = some r) : htLe (f + 1) r.g ∧ wtF (f + 1) r.g + r.s.length + 1 ≤ s.length := by
  unfold wrF at h
  split at h
  · cases h
  · rename_i k hk
    split at h
    · cases h
    · rename_i l hl
      split at h
      · cases h
      · rename_i t ht
        have a := (numF_len hk).1; have b := (numF_len hl).1; have c := (numF_len ht).1
        cases h
        refine ⟨trivial, ?_⟩
        show 1 + t.s.length + 1 ≤ s.length
        omega
theorem sum_le (f : Nat) : ∀ l : List Gt, (l.map (wtF f)).sum ≤ wt1 f l
  | [] => Nat.le_refl _
  | g :: l => by have := sum_le f l; simp only [wt1, List.map_cons, List.sum_cons] at this ⊢; omega
theorem gF_reads : ∀ f, Reads f (gF f)
  | 0, _, _, h => by cases h
  | _ + 1, [], _, h => by cases h
  | f + 1, t :: s, r, h => by
    have ih := gF_reads f
    simp only [gF] at h
    simp only [List.length_cons]
    split at h
    · split at h
      · cases h
      · rename_i k hk
        have := (numF_len hk).1
        cases h
        refine ⟨trivial, ?_⟩
        show 0 + k.s.length + 1 ≤ _
        omega
    · split at h
      · have := wrF_wt (f := f) h
        exact ⟨this.1, by omega⟩
      · split at h
        · split at h
          · cases h
          · rename_i k hk
            have a := (numF_len hk).1
            split at h
            · cases h
            · rename_i q hq
              have b := ih _ _ hq
              cases h
              refine ⟨b.1, ?_⟩
              have b2 := b.2
              show wtF f q.g + q.s.length + 1 ≤ _
              omega
        · split at h
          · split at h
            · cases h
            · rename_i q hq
              have := listF_wt ih hq
              cases h
              refine ⟨this.1, ?_⟩
              have b2 := this.2
              show wt1 f q.l + q.s.length + 1 ≤ _
              omega
          · split at h
            · split at h
              · cases h
              · rename_i q hq
                have := listF_wt ih hq
                cases h
                refine ⟨this.1, ?_⟩
                have b2 := this.2
                have b3 := sum_le f q.l
                show (q.l.map (wtF f)).sum + q.s.length + 1 ≤ _
                omega
            · cases h
theorem sgs_lenP : ∀ (n : Nat) (l : BtP), (sgs n l).length ≤ n
  | 0, _ => by simp [sgs]
  | n + 1, [] => by simp [sgs]
  | n + 1, c :: l => by
    simp only [sgs]
    split
    · have := sgs_lenP n l; omega
    · have := sgs_lenP n ((c :: l).drop (sgLen (c :: l)))
      simp only [List.length_cons]; omega
theorem parseF_reads {l : BtP} {g : Gt} (h : parseF l = some g) : htLe 20 g ∧ wtF 20 g ≤ 2001 := by
  unfold parseF at h
  split at h
  · cases h
  · rename_i hl
    split at h
    · cases h
    · rename_i r hr
      split at h
      · cases h
        have k := gF_reads 20 _ _ hr
        have e := sgs_lenP l.length l
        have k2 := k.2
        simp only [List.length_append, List.length_cons, List.length_nil] at k2
        exact ⟨k.1, by omega⟩
      · cases h

end Go.Proofs.YthblokfiojccmaaGreatDoor.Gn
