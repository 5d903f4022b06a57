/-
  How deep a generator is: with enough room what is given next hangs on no room.
-/
import Derived.Test.YtfpphckhjbgbhaaDoorGnP
namespace Go.Proofs.YtfpphckhjbgbhaaDoor.Gn

def htLe : Nat → Gt → Prop
  | 0, _ => False
  | _ + 1, .rd _ => True
  | _ + 1, .wr _ _ _ => True
  | n + 1, .lim g _ => htLe n g
  | n + 1, .mix l => ∀ g ∈ l, htLe n g
  | n + 1, .thn l => ∀ g ∈ l, htLe n g

theorem mixF_congr {nx ny : Gt → Tp → Gv} {Q : Gt → Prop} (h : ∀ g t, Q g → ny g t = nx g t ∧ Q (nx g t).g) (hd : Q (.rd 0)) : ∀ (k : Nat) (l : List Gt) (t : Tp), (∀ g ∈ l, Q g) → mixF ny k l t = mixF nx k l t ∧ ∃ l', (mixF nx k l t).g = .mix l' ∧ ∀ g ∈ l', Q g
  | 0, l, t, hl => ⟨rfl, l, rfl, hl⟩
  | k + 1, l, t, hl => by
    have hq : Q (l.getD (t.below l.length).toNat (.rd 0)) := by
      rw [List.getD_eq_getElem?_getD]
      cases e : l[(t.below l.length).toNat]? with
      | none => exact hd
      | some g => exact hl g (List.mem_of_getElem? e)
    obtain ⟨e1, e2⟩ := h _ (t.on l.length) hq
    simp only [mixF]
    rw [e1]
    cases e : (nx (l.getD (t.below l.length).toNat (.rd 0)) (t.on l.length)).c with
    | some c =>
      refine ⟨rfl, _, rfl, fun g hg => ?_⟩
      rcases List.mem_or_eq_of_mem_set hg with hg | rfl
      · exact hl g hg
      · exact e2
    | none => exact mixF_congr h hd k _ _ (fun g hg => hl g (List.mem_of_mem_eraseIdx hg))

theorem thnF_congr {nx ny : Gt → Tp → Gv} {Q : Gt → Prop} (h : ∀ g t, Q g → ny g t = nx g t ∧ Q (nx g t).g) : ∀ (l : List Gt) (t : Tp), (∀ g ∈ l, Q g) → thnF ny l t = thnF nx l t ∧ ∃ l', (thnF nx l t).g = .thn l' ∧ ∀ g ∈ l', Q g
  | [], t, hl => ⟨rfl, [], rfl, hl⟩
  | g :: l, t, hl => by
    obtain ⟨e1, e2⟩ := h g t (hl g (by simp))
    simp only [thnF]
    rw [e1]
    cases e : (nx g t).c with
    | some c =>
      refine ⟨rfl, _, rfl, fun x hx => ?_⟩
      rcases List.mem_cons.1 hx with rfl | hx
      · exact e2
      · exact hl x (by simp [hx])
    | none => exact thnF_congr h l _ (fun x hx => hl x (by simp [hx]))

theorem nextF_more : ∀ (n : Nat) (g : Gt) (t : Tp), htLe n g → nextF (n + 1) g t = nextF n g t ∧ htLe n (nextF n g t).g
  | 0, _, _, h => h.elim
  | n + 1, .rd k, t, h => ⟨rfl, trivial⟩
  | n + 1, .wr k a b, t, h => ⟨rfl, trivial⟩
  | n + 1, .lim g k, t, h => by
    obtain ⟨e1, e2⟩ := nextF_more n g t h
    rw [nextF, nextF]
    split
    · exact ⟨rfl, h⟩
    · simp only [e1]
      exact ⟨trivial, e2⟩
  | n + 1, .mix l, t, h => by
    have ih : ∀ g t, htLe n g → nextF (n + 1) g t = nextF n g t ∧ htLe n (nextF n g t).g := fun g t hg => nextF_more n g t hg
    cases hn : n with
    | zero =>
      subst hn
      rcases l with _ | ⟨g, l⟩
      · exact ⟨rfl, h⟩
      · exact (h g (by simp)).elim
    | succ k =>
      obtain ⟨e1, l', e2, e3⟩ := mixF_congr (nx := nextF n) (ny := nextF (n + 1)) (Q := htLe n) ih (by rw [hn]; trivial) l.length l t h
      rw [← hn]
      refine ⟨e1, ?_⟩
      rw [nextF, e2]; exact e3
  | n + 1, .thn l, t, h => by
    obtain ⟨e1, l', e2, e3⟩ := thnF_congr (nx := nextF n) (ny := nextF (n + 1)) (Q := htLe n) (fun g t hg => nextF_more n g t hg) l t h
    refine ⟨e1, ?_⟩
    rw [nextF, e2]; exact e3

theorem takeF_more (n : Nat) : ∀ (m : Nat) (g : Gt) (t : Tp), htLe n g → takeF (n + 1) m g t = takeF n m g t
  | 0, _, _, _ => rfl
  | m + 1, g, t, h => by
    obtain ⟨e1, e2⟩ := nextF_more n g t h
    cases e : (nextF n g t).c with
    | none => rw [takeF_none e, takeF_none (by rw [e1]; exact e), e1]
    | some c => rw [takeF_some e, takeF_some (c := c) (by rw [e1]; exact e), e1, takeF_more n m _ _ e2]

end Go.Proofs.YtfpphckhjbgbhaaDoor.Gn
