/-
  What Ops of package event does: as the plain history.
-/
import Derived.Test.YtbmnehnmmlfhdaaDoorGather
namespace Go.Proofs.YtbmnehnmmlfhdaaDoor
open Go.RowKit

theorem EvsAt.below {w w' : World} {B b off : Nat} {l : List Ev} (h : EvsAt w b off l) (hb : b < B) (hn : Below B w w') : EvsAt w' b off l := fun i hi => (h i hi).below hb hn

/-- What Ops tells of events. -/
def OpsTold (l : List Ev) (e : Ending) (w' : World) : Prop :=
  (120 < l.length ∧ e = .returned (.tuple #[.slice none 0 0, .iface 33 (.int .i64 4)])) ∨
  (∃ (k g : Nat) (n : Int) (h : k < l.length), FineH l k ∧ seeN l[k] (hist l k) = n ∧ n ≠ 0 ∧ e = .returned (.tuple #[.slice none 0 0, .iface 39 (.pointer (some ⟨g, 0, none⟩))]) ∧ w'.cell? ⟨g, 0, none⟩ = some (.int .i64 n) ∧ w'.cell? ⟨g, 1, none⟩ = some (.int .i64 k)) ∨
  (l.length ≤ 120 ∧ FineH l l.length ∧ ∃ (a : Option Addr) (cap : Nat) (L : List Opn), e = .returned (.tuple #[.slice a L.length cap, .nilIface]) ∧ OpsOf (hist l l.length) L ∧ (L.length ≤ cap ∧ L.length ≤ 1000) ∧ (0 < L.length → ∃ g, a = some ⟨g, 0, none⟩ ∧ OpsAt w' g 0 L))

theorem seeS_len (n : Int) (e : Ev) (s : Hs) : (seeS n e s).done.length ≤ s.done.length + 1 := by
  unfold seeS
  split
  · simp
  · split
    · omega
    · split
      · simp
      · split <;> simp
theorem hist_len (l : List Ev) (n : Nat) : (hist l n).done.length ≤ n := by
  induction n with
  | zero => simp [hist, Hs.new]
  | succ n ih =>
    show (match l[n]? with | some e => seeS n e (hist l n) | none => hist l n).done.length ≤ n + 1
    cases l[n]? with
    | none => show (hist l n).done.length ≤ n + 1; omega
    | some e => have := seeS_len n e (hist l n); show (seeS n e (hist l n)).done.length ≤ n + 1; omega

theorem fineH_succ {l : List Ev} {n : Nat} (h : FineH l n) (hn : n < l.length) (hz : seeN l[n] (hist l n) = 0) : FineH l (n + 1) := fun i hi hin => by
  by_cases e : i = n
  · subst e; exact hz
  · exact h i hi (by omega)

/-- The history at first. -/
theorem hist_start (w : World) (l : List Ev) : HistAt ((w.alloc (.map #[] 0)).alloc (.cells #[.map (some w.heap.size), .bool false, .bool false, .bool false, .bool false, .bool false, .bool false, .bool false, .bool false, .slice none 0 0] 69)) (w.heap.size + 1) w.heap.size (w.heap.size + 2) 0 (hist l 0) := by
  have e1 : (w.alloc (.map #[] 0)).heap.size = w.heap.size + 1 := by simp
  refine ⟨?_, fun p p0 p8 => ?_, ⟨.slice none 0 0, ?_, ?_, World.ownsRow_nil _ _ _ _⟩, (mapIs_made w).alloc _, by omega, by omega, by simp⟩
  · rw [← e1]; simp
  · rw [← e1]
    have : p = 0 ∨ p = 1 ∨ p = 2 ∨ p = 3 ∨ p = 4 ∨ p = 5 ∨ p = 6 ∨ p = 7 := by omega
    rcases this with rfl | rfl | rfl | rfl | rfl | rfl | rfl | rfl <;> simp [hist, Hs.new]
  · rw [← e1]; simp
  · rw [← e1]; simp

set_option maxHeartbeats 400000 in
theorem evOps_long (l : List Ev) (a : Option Addr) (cap : Nat) (w : World) (h : 120 < l.length) (h2 : l.length ≤ maxLen) :
    Calls Tryd.prog 12 #[.slice a l.length cap] w fun e w' => OpsTold l e w' ∧ Below w.heap.size w w' := by
  unfold maxLen at h2
  go_enter Tryd.func12, Tryd.ntmps12
  go_wp2
  go_ret2
  exact ⟨.inl ⟨h, rfl⟩, Below.refl _ _⟩

set_option maxHeartbeats 1000000 in
theorem evOps_some (l : List Ev) (b off cap : Nat) (w : World) (hlen : l.length ≤ 120) (hl : EvsAt w b off l) (hb : b < w.heap.size) :
    Calls Tryd.prog 12 #[.slice (some ⟨b, off, none⟩) l.length cap] w fun e w' => OpsTold l e w' ∧ Below w.heap.size w w' := by
  have HL := hideIt hl
  clear hl
  have hmm := @run_makeMap Tryd.prog
  have h120 : decide (120 < (l.length : Int)) = false := by simp; omega
  have HS := hideIt (hist_start w l)
  go_enter Tryd.func12, Tryd.ntmps12
  go_wp2
  go_loopw [16] (fun i wr => ∃ k : Nat, k ≤ l.length ∧ i = .int .i64 k ∧ FineH l k ∧ HistAt wr (w.heap.size + 1) w.heap.size (w.heap.size + 2) k (hist l k) ∧ Below w.heap.size w wr) (fun i _ => l.length - (intOf i).toNat)
  case atStart => exact ⟨0, Nat.zero_le _, rfl, fun i _ h => absurd h (Nat.not_lt_zero _), HS.out, belA (belA (Below.refl _ _) _) _⟩
  case round =>
    obtain ⟨k, hk, rfl, hf, hh, hnx⟩ := hrel
    have HF := hideIt hf
    have HH := hideIt hh
    have hsz := hnx.size
    clear hf hh
    by_cases hkl : k < l.length
    · obtain ⟨e, HE⟩ : ∃ e, Hid (l[k] = e) := ⟨_, hideIt rfl⟩
      have hc := (HL.out k hkl).below hb hnx
      rw [HE.out] at hc
      obtain ⟨c0, c1, c2, c3, c4, c5, c6⟩ := hc
      have hdl := hist_len l k
      have HC := hideIt (see_any e (k : Int) _ (w.heap.size + 1) w.heap.size (w.heap.size + 2) k (hist l k) (HH.out.alloc e.obj) (by omega) (by omega))
      obtain ⟨n, HN⟩ : ∃ n, Hid (seeN e (hist l k) = n) := ⟨_, hideIt rfl⟩
      rw [HN.out] at HC
      clear hdl
      unfold Ev.agg Ev.obj at HC
      by_cases hz : n = 0
      · have hz' : (n != 0) = false := by simp [hz]
        have R1 : Hid (FineH l (k + 1)) := fineH_succ HF.out hkl (by rw [HE.out, HN.out]; exact hz)
        have HZ : Hid (n = 0) := hz
        clear hz
        go_wp2_with fail
        refine HC.out.mono ?_
        rintro ev w1 ⟨rfl, h1, h2⟩
        have R2 : Hid (HistAt w1 (w.heap.size + 1) w.heap.size (w.heap.size + 2) (k + 1) (hist l (k + 1))) := by
          have := h1 HZ.out
          rw [← HE.out, ← hist_succ l k hkl] at this
          exact this
        have R3 := hideIt ((hnx.alloc hsz _).trans h2)
        clear h1 h2
        go_wp2
        go_roundw
        case rel => exact ⟨k + 1, by omega, by go_num, R1.out, R2.out, R3.out⟩
        case measure => simp [intOf]; omega
      · have hz' : (n != 0) = true := by simp [hz]
        have R1 : Hid (FineH l k ∧ seeN l[k] (hist l k) = n ∧ n ≠ 0) := ⟨HF.out, by rw [HE.out]; exact HN.out, hz⟩
        clear hz
        go_wp2_with fail
        refine HC.out.mono ?_
        rintro ev w1 ⟨rfl, h1, h2⟩
        have R3 := hideIt ((hnx.alloc hsz _).trans h2)
        have hsz1 : w.heap.size ≤ w1.heap.size := R3.out.size
        clear h1 h2
        go_wp2
        go_ret2
        exact ⟨.inr (.inl ⟨k, w1.heap.size, n, hkl, R1.out.1, R1.out.2.1, R1.out.2.2, rfl, by simp, by simp⟩), R3.out.alloc hsz1 _⟩
    · have hdl := hist_len l k
      have HC := hideIt (ops_any wr (w.heap.size + 1) w.heap.size (w.heap.size + 2) k (hist l k) HH.out (by omega) (by omega))
      clear hdl
      have HK : Hid (k = l.length) := show k = l.length by omega
      go_wp2_with fail
      refine HC.out.mono ?_
      rintro ev w1 ⟨a, cp, L, rfl, h1, h2, h3, h4⟩
      have R1 : Hid (FineH l l.length ∧ OpsOf (hist l l.length) L) := ⟨by rw [← HK.out]; exact HF.out, by rw [← HK.out]; exact h1⟩
      have R2 := hideIt h3
      have R3 := hideIt (hnx.trans h4)
      clear h1 h3 h4
      go_wp2
      go_ret2
      exact ⟨.inr (.inr ⟨hlen, R1.out.1, a, cp, L, rfl, R1.out.2, h2, R2.out⟩), R3.out⟩

set_option maxHeartbeats 1000000 in
theorem evOps_none (a : Option Addr) (cap : Nat) (w : World) :
    Calls Tryd.prog 12 #[.slice a 0 cap] w fun e w' => OpsTold [] e w' ∧ Below w.heap.size w w' := by
  have hmm := @run_makeMap Tryd.prog
  have HS := hideIt (hist_start w [])
  go_enter Tryd.func12, Tryd.ntmps12
  go_wp2
  refine wp_loop_rounds 1 ?_
  rw [rounds_succ]
  go_wp2_with fail
  refine (ops_any _ (w.heap.size + 1) w.heap.size (w.heap.size + 2) 0 (hist [] 0) HS.out (by omega) (by simp [hist, Hs.new])).mono ?_
  rintro ev w1 ⟨a, cp, L, rfl, h1, h2, h3, h4⟩
  have R1 := hideIt h1
  have R2 := hideIt h3
  have R3 : Hid (Below w.heap.size w w1) := (belA (belA (Below.refl _ _) _) _).trans h4
  clear h1 h3 h4
  go_wp2
  go_ret2
  exact ⟨.inr (.inr ⟨by simp, fun i h => absurd h (Nat.not_lt_zero _), a, cp, L, rfl, R1.out, h2, R2.out⟩), R3.out⟩

end Go.Proofs.YtbmnehnmmlfhdaaDoor
