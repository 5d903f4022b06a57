/-
  A table of rows of bools that is made, and set bit by bit; the document's blank, walked.
-/
import Derived.Test.YtodanhjookgbeaaDoorGoWZ
import Derived.Test.YtodanhjookgbeaaDoorRgL
namespace Go.Proofs.YtodanhjookgbeaaDoor
open Go.RowKit

/-- One bit is set. -/
theorem OutAt.put {w : World} {base n : Nat} {v : Value} {gs : List Nat} {A : Nat → Nat → Bool} (h : OutAt w base n v gs A) (hn : gs.Nodup) {i k : Nat} (hi : i < gs.length) (hk : k < n) (x : Bool) :
    OutAt (w.setCell ⟨gs[i], k, none⟩ (.bool x)) base n v gs (fun a b => if a = i ∧ b = k then x else A a b) := by
  obtain ⟨hbi, hlo, hne⟩ := h.bits i hi
  refine ⟨h.row.block fun j hj => Below.heap_setCell w ⟨gs[i], k, none⟩ _ j (fun e => hne (by rw [hj, e])), fun j hj => ?_⟩
  obtain ⟨h1, h2, h3⟩ := h.bits j hj
  by_cases e : j = i
  · subst e
    exact ⟨(h1.put hk x).same fun b _ => by by_cases e' : b = k <;> simp [e'], h2, h3⟩
  · refine ⟨(h1.other (p := ⟨gs[i], k, none⟩) (fun e' => e (nd_idx hn hj hi e')) _).same fun b _ => by simp [e], h2, h3⟩

set_option maxRecDepth 100000 in
set_option maxHeartbeats 1000000 in
theorem blank_any (n : Nat) (hn : n ≤ 60) (w : World) : Calls Tryd.prog 22 #[.int .i64 (n : Int)] w fun e w' => ∃ v gs, e = .returned v ∧ OutAt w' w.heap.size n v gs (fun _ _ => false) ∧ gs.length = n ∧ gs.Nodup ∧ Below w.heap.size w w' := by
  go_enter Tryd.func22, Tryd.ntmps22
  go_wp2
  go_loopw [3, 5] (fun v c wr => ∃ (k : Nat) (gs : List Nat), k ≤ n ∧ c = .int .i64 k ∧ OutAt wr w.heap.size n v gs (fun _ _ => false) ∧ gs.length = k ∧ gs.Nodup ∧ Below w.heap.size w wr) (fun _ c _ => n - (intOf c).toNat)
  case atStart => exact ⟨0, [], Nat.zero_le _, rfl, outAt_nil _ _ _ _, rfl, List.nodup_nil, Below.refl _ _⟩
  case round =>
    obtain ⟨k, gs, hk, rfl, ho, hgl, hnd, hb⟩ := hrel
    have HO := hideIt ho
    have HB := hideIt hb
    have HNd := hideIt hnd
    clear ho hb hnd
    by_cases hkn : k < n
    · have hkn' : (k : Int) < n := by omega
      have hmk := made_bits wr n hn
      have hb1 : Below wr.heap.size wr ((wr.alloc (.cells (madeCells #[.bool false] n) 4)).alloc (.cells #[.slice (some ⟨wr.heap.size, 0, none⟩) n n] 47)) := belA (belA (Below.refl _ _) _) _
      have HO1 := hideIt (HO.out.below hb1 (Nat.le_refl _))
      have HBt : Hid (BitsAt ((wr.alloc (.cells (madeCells #[.bool false] n) 4)).alloc (.cells #[.slice (some ⟨wr.heap.size, 0, none⟩) n n] 47)) wr.heap.size n (fun _ => false)) := (bits_made wr n).block (Below.heap_alloc _ _ _ (by simp))
      have HB1 := hideIt (belJ HB.out hb1)
      have HSz : Hid (w.heap.size ≤ wr.heap.size) := HB.out.size
      have HOwn : Hid (∀ j, u3.ownBlock = some j → j < wr.heap.size) := fun j hj => (HO.out.row.lt j hj).2
      have HGs : Hid (∀ g ∈ gs, g < wr.heap.size) := fun g hg => by
        obtain ⟨i, hi, e⟩ := List.getElem_of_mem hg
        rw [← e]; exact (HO.out.bits i hi).1.lt
      have hnc : ((wr.alloc (.cells (madeCells #[.bool false] n) 4)).alloc (.cells #[.slice (some ⟨wr.heap.size, 0, none⟩) n n] 47)).cell? ⟨wr.heap.size + 1, 0, none⟩ = some (.slice (some ⟨wr.heap.size, 0, none⟩) n n) := by
        have e := heap_alloc_new (wr.alloc (.cells (madeCells #[.bool false] n) 4)) (.cells #[.slice (some ⟨wr.heap.size, 0, none⟩) n n] 47)
        rw [World.size_alloc] at e
        rw [cell_of_row _ _ 0 _ 47 _ e]; rfl
      have HNc := hideIt hnc
      clear hb1 hnc HO HB
      go_wp2_with (at_builtin; refine wpList_append_rowG rfl _ _ rfl w.heap.size _ _ rfl HO1.out.row (wr.heap.size + 1) 1 (.slice (some ⟨wr.heap.size, 0, none⟩) n n) rfl rfl HNc.out ?c2 ?c3 ?_)
      case c2 => simp; omega
      case c3 => have := HSz.out; simp; omega
      intro v' w3 ht
      have HO3 : Hid (OutAt w3 w.heap.size n v' (gs ++ [wr.heap.size]) (fun _ _ => false)) :=
        (HO1.out.more HBt.out HSz.out (fun e => by have := HOwn.out _ e; omega) ht).same fun i k _ _ => by split <;> rfl
      have HB3 : Hid (Below w.heap.size w w3) := HB1.out.grown ht.grown (by have := HSz.out; simp; omega) (fun k hk => (HO1.out.row.lt k hk).1)
      have HN3 : Hid ((gs ++ [wr.heap.size]).Nodup) := by
        show (gs ++ [wr.heap.size]).Nodup
        rw [List.nodup_append]
        exact ⟨HNd.out, by simp, fun a ha b hb' => by rw [List.mem_singleton.1 hb']; have := HGs.out a ha; omega⟩
      have HL3 : Hid ((gs ++ [wr.heap.size]).length = k + 1) := by show (gs ++ [wr.heap.size]).length = k + 1; rw [List.length_append, hgl]; rfl
      clear ht hmk
      go_wp2
      go_roundw
      case rel => exact ⟨k + 1, _, by omega, by go_num, HO3.out, HL3.out, HN3.out, HB3.out⟩
      case measure => simp [intOf]; omega
    · obtain rfl : k = n := by omega
      go_wp2
      go_ret
      exact ⟨_, gs, rfl, HO.out, hgl, HNd.out, HB.out⟩
end Go.Proofs.YtodanhjookgbeaaDoor
