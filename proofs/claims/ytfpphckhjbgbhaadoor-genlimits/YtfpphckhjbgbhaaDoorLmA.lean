/-
  The statements' own digits: walked.
-/
import Derived.Test.YtfpphckhjbgbhaaDoorGpT
import Derived.Test.YtfpphckhjbgbhaaDoorAgC
import Derived.Laws.IdiomStrings
import Derived.Lib.AppendStr
namespace Go.Proofs.YtfpphckhjbgbhaaDoor.Gn
open Go.RowKit

theorem ba_app (a b : Bt) : ba a ++ ba b = ba (a ++ b) := by
  apply ByteArray.ext
  simp [ba]
theorem dg_small : ∀ n, n < 10 → ((UInt8.ofNat (48 + n)).toNat : Int) = 48 + (n : Int) := by decide
theorem dg_two : ∀ n, n < 30 → ¬ n < 10 → dgT n = dgT (n / 10) ++ dgT (n % 10) ∧ n / 10 < 10 ∧ n % 10 < 10 := by decide

theorem dg_len (n : Nat) : (dgT n).length ≤ 2 := by unfold dgT; split <;> simp
/-- A row of bytes as a text. -/
theorem conv_row {w : World} {base g cap : Nat} {l : Bt} (h : w.ownsRow base 5 1 (.slice (some ⟨g, 0, none⟩) l.length cap) l.length (l.map fun b => .int .u8 (b.toNat : Int))) :
    (convert 27 9 (.slice (some ⟨g, 0, none⟩) l.length cap)).run Tryd.prog w = .ok (.string (ba l)) w :=
  run_convert_bytes_back w 27 9 5 ⟨g, 0, none⟩ cap l Tryd.underlying27 Tryd.underlying5 Tryd.underlying9 (fun j hj => by
    have h1 := h.cellAt j (by omega)
    rw [List.getElem?_map, List.getElem?_eq_getElem hj] at h1
    by_cases hj0 : j = 0
    · subst hj0; simpa [Addr.add] using h1
    · simpa [Addr.add, hj0] using h1)

set_option maxHeartbeats 4000000 in
set_option maxRecDepth 100000 in
theorem digits_one (n : Nat) (w : World) (hn : n < 10) : Calls Tryd.prog 7 #[.int .i64 (n : Nat)] w fun e w' => e = .returned (.string (ba (dgT n))) ∧ Fr [] w w' := by
  have h10 : (n : Int) < 10 := by omega
  have hD : dgT n = [UInt8.ofNat (48 + n)] := by unfold dgT; rw [if_pos hn]
  have hv := dg_small n hn
  have hcv : (convert 27 9 (.slice (some ⟨w.heap.size, 0, none⟩) 1 1)).run Tryd.prog (w.alloc (.cells #[.int .u8 (48 + (n : Int))] 5)) = .ok (.string (ba (dgT n))) (w.alloc (.cells #[.int .u8 (48 + (n : Int))] 5)) := by
    rw [hD]
    refine conv_row (base := w.heap.size) (l := [UInt8.ofNat (48 + n)]) (owns_of_cells (Nat.le_refl _) (heap_new _ _) (Nat.le_refl _) (by decide) rfl rfl (fun j hj => ?_))
    obtain rfl : j = 0 := by simp at hj; omega
    rw [cell_of_row _ _ _ _ 5 _ (heap_new w _), ← hv]
    rfl
  clear hD hv
  go_enter Tryd.func7, Tryd.ntmps7
  go_wp2
  go_ret
  exact ⟨rfl, Fr.alloc _ _ _⟩

set_option maxHeartbeats 4000000 in
set_option maxRecDepth 100000 in
theorem digits_any (n : Nat) (w : World) (hn : n < 30) : Calls Tryd.prog 7 #[.int .i64 (n : Nat)] w fun e w' => e = .returned (.string (ba (dgT n))) ∧ Fr [] w w' := by
  by_cases h : n < 10
  · exact digits_one n w h
  · obtain ⟨h1, h2, h3⟩ := dg_two n hn h
    have h10 : ¬ (n : Int) < 10 := by omega
    have HA := hideIt (fun W => digits_one (n / 10) W h2)
    have HB := hideIt (fun W => digits_one (n % 10) W h3)
    have ha := ba_app (dgT (n / 10)) (dgT (n % 10))
    rw [← h1] at ha
    have s1 : (ba (dgT (n / 10))).size ≤ 2 := by rw [ba_size]; exact dg_len _
    have s2 : (ba (dgT (n % 10))).size ≤ 2 := by rw [ba_size]; exact dg_len _
    have e3 : wrap64 ((n : Int) / 10) = (n : Int) / 10 := by unfold wrap64; omega
    have e4 : wrap64 ((n : Int) % 10) = (n : Int) % 10 := by unfold wrap64; omega
    have e5 : ((n / 10 : Nat) : Int) = (n : Int) / 10 := by omega
    have e6 : ((n % 10 : Nat) : Int) = (n : Int) % 10 := by omega
    rw [e5] at HA
    rw [e6] at HB
    clear h1 e5 e6
    go_enter Tryd.func7, Tryd.ntmps7
    go_wp2_with fail
    refine (HA.out _).mono ?_
    rintro y w1 ⟨rfl, hf1⟩
    have HF1 := hideIt hf1
    clear hf1
    go_wp2_with fail
    refine (HB.out _).mono ?_
    rintro y w2 ⟨rfl, hf2⟩
    have HF2 := hideIt (HF1.out.trans hf2)
    clear hf2
    go_wp2
    go_ret
    exact ⟨rfl, HF2.out⟩
end Go.Proofs.YtfpphckhjbgbhaaDoor.Gn
