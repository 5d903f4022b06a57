/-
  The statements' own pick and take: walked.
-/
import Derived.Test.YtfpphckhjbgbhaaDoorRdH
import Derived.Test.YtfpphckhjbgbhaaDoorGpR
import Derived.Test.YtfpphckhjbgbhaaDoorTkW
namespace Go.Proofs.YtfpphckhjbgbhaaDoor.Gn
open Go.RowKit

def pickN (a : Int) (n : Nat) : Nat := (IntKind.u64.wrap a).toNat % n
set_option maxHeartbeats 1000000 in
theorem pick_is (a : Int) (n : Nat) (w : World) (h0 : 0 < n) (hn : n ≤ 1000000) : Calls Tryd.prog 5 #[.int .i64 a, .int .i64 n] w fun e w' => e = .returned (.int .i64 (pickN a n)) ∧ w' = w := by
  have e1 : IntKind.u64.wrap (n : Int) = (n : Int) := by rw [IntKind.wrap_u64]; omega
  have h64 : 0 ≤ IntKind.u64.wrap a := by rw [IntKind.wrap_u64]; omega
  obtain ⟨m, hm⟩ : ∃ m : Nat, IntKind.u64.wrap a = m := ⟨(IntKind.u64.wrap a).toNat, by omega⟩
  have HPN : Hid (pickN a n = m % n) := hideIt (by unfold pickN; rw [hm, Int.toNat_natCast])
  have hne : (n : Int) ≠ 0 := by omega
  have hne' : ((n : Int) == 0) = false := by simp; omega
  have HM : Hid (wrap64 ((m : Int) % (n : Int)) = ((m % n : Nat) : Int)) := hideIt (by
    have h2 : m % n < n := Nat.mod_lt _ h0
    have h3 : (m : Int) % (n : Int) = ((m % n : Nat) : Int) := by simp
    rw [h3]
    unfold wrap64
    omega)
  go_enter Tryd.func5, Tryd.ntmps5
  go_wp2
  go_ret
  exact ⟨ret_int (by rw [HPN.out]; exact HM.out), rfl⟩

theorem ownsRow_low {w : World} {base base' : Nat} {e : TypeId} {z n : Nat} {v : Value} {xs : List Value} (h : w.ownsRow base e z v n xs) (hb : base' ≤ base) : w.ownsRow base' e z v n xs :=
  ⟨h.1, h.2.imp id fun ⟨g, cap, cur, h1, h2, h3⟩ => ⟨g, cap, cur, h1, Nat.le_trans hb h2, h3⟩⟩
/-- What the statements' own take tells. -/
def KtTold (l : Bt) (xs : List Int) (most : Nat) (w : World) (e : Ending) (w' : World) : Prop :=
  Fr [] w w' ∧ ((∃ g sl, parseF l = some g ∧ e = .returned (.tuple #[sl, .bool true]) ∧ w'.ownsRow w.heap.size 45 3 sl (takeF 20 most g ⟨xs, 0⟩).l.length (clCs (takeF 20 most g ⟨xs, 0⟩).l)) ∨
    (parseF l = none ∧ e = .returned (.tuple #[.slice none 0 0, .bool false])))

theorem InQ.fr {w w' : World} {v : Value} {l : List Int} (h : InQ w v l) (hg : Fr [] w w') : InQ w' v l := by
  obtain ⟨a, cap, h1, h2, h3⟩ := h
  refine ⟨a, cap, h1, h2, h3.imp id fun ⟨b, off, k1, k2, k3⟩ => ⟨b, off, k1, Nat.lt_of_lt_of_le k2 hg.size, fun i hi => ?_⟩⟩
  exact (World.cell?_of_block (a := ⟨b, off + i, none⟩) (hg.block b k2 (by simp))).trans (k3 i hi)

set_option maxHeartbeats 8000000 in
set_option maxRecDepth 100000 in
theorem ktake_any (l : Bt) (xs : List Int) (v : Value) (most : Nat) (w : World) (hv : ErrV w) (hq : InQ w v xs) (hm : most ≤ 1000) :
    Calls Tryd.prog 6 #[.string (ba l), v, .int .i64 (most : Nat)] w (KtTold l xs most w) := by
  have HP := hideIt (parse_any l w hv)
  obtain ⟨a8, c8, rfl, hcap, hq2⟩ := hq
  have HQ := hideIt hq2
  clear hv hq2
  go_enter Tryd.func6, Tryd.ntmps6
  go_wp2_with fail
  refine HP.out.mono ?_
  rintro y w1 (⟨g, v, bs, h1, rfl, h2, h3⟩ | ⟨h1, T, x, rfl, h3⟩)
  · obtain ⟨T, x, F, hMt⟩ := met_of h2
    have hsh := hMt.shape
    subst hsh
    have hnil := hMt.nil
    have HMt := hideIt hMt
    have hws := h3.size
    obtain ⟨hht, hwt⟩ := parseF_reads h1
    have hnew := heap_new w1 (.cells #[.slice a8 xs.length c8, .int .i64 0] 40)
    have hal : Fr [] w1 (w1.alloc (.cells #[.slice a8 xs.length c8, .int .i64 0] 40)) := Fr.alloc _ _ _
    have hT : TpAt (w1.alloc (.cells #[.slice a8 xs.length c8, .int .i64 0] 40)) w.heap.size w1.heap.size 0 ⟨xs, 0⟩ := by
      refine ⟨⟨a8, c8, by rw [cell_of_row _ _ _ _ _ _ hnew]; rfl, hcap, HQ.out.imp id fun ⟨b, off, k1, k2, k3⟩ => ⟨b, off, k1, k2, fun i hi => ?_⟩⟩, by rw [cell_of_row _ _ _ _ _ _ hnew]; rfl, frozen_of_row _ _ _ _ _ hnew, hws⟩
      have hb1 : w1.heap[b]? = w.heap[b]? := h3.block b k2 (by simp)
      have hb2 := hal.block b (Nat.lt_of_lt_of_le k2 hws) (by simp)
      exact (World.cell?_of_block (a := ⟨b, off + i, none⟩) (hb2.trans hb1)).trans (k3 i hi)
    have HTk := hideIt (take_any 20 most w.heap.size w1.heap.size 0 ⟨xs, 0⟩ _ _ g bs (h2.fr hal (by simp)) hT (fun e => by have := (h2.in_ _ e).2; omega) hm (by
      have : most * wtF 20 g ≤ 1000 * 2001 := Nat.mul_le_mul hm hwt
      show 0 + most * wtF 20 g ≤ 1000000000
      omega))
    have HF1 := hideIt (h3.trans hal)
    have H1 := hideIt h1
    have HBs : Hid (∀ b ∈ bs, w.heap.size ≤ b) := hideIt (fun b hb => (h2.in_ b hb).1)
    clear h2 h3 hT h1 hal hnew hht hwt hMt
    go_wp2_with fail
    refine HTk.out.mono ?_
    rintro y w2 ⟨⟨sl, rfl, hrow⟩, _, _, hf2, _⟩
    have HF2 : Hid (Fr [] w w2) := hideIt (by
      have h := (HF1.out.more (Y := w1.heap.size :: bs) (by simp)).trans hf2
      exact ⟨h.os, h.tape, h.output, h.size, fun k hk _ => h.block k hk (fun e => by
        rcases List.mem_cons.1 e with e | e
        · omega
        · have := HBs.out k e; omega)⟩)
    have HRow := hideIt hrow
    clear hf2 hrow
    go_wp2
    go_quiet (fail)
    go_wp2
    go_ret2
    refine ⟨HF2.out.trans (Fr.drewN _ _ _), .inl ⟨g, sl, H1.out, rfl, ?_⟩⟩
    exact ownsRow_low (ownsRow_blk (w' := w2.drewN _) HRow.out (fun _ _ => rfl)) (by simp; omega)
  · have H1 := hideIt h1
    have HF := hideIt h3
    clear h1 h3
    go_wp2
    go_ret2
    exact ⟨HF.out, .inr ⟨H1.out, rfl⟩⟩
end Go.Proofs.YtfpphckhjbgbhaaDoor.Gn
