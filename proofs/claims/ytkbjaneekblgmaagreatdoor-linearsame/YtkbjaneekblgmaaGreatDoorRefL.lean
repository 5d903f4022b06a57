/-
  The document's own LinearCheck and Shows: walked.
-/
import Derived.Test.YtkbjaneekblgmaaGreatDoorTimelyWZ
import Derived.Test.YtkbjaneekblgmaaGreatDoorLcA
import Derived.Test.YtkbjaneekblgmaaGreatDoorRefR
namespace Go.Proofs.YtkbjaneekblgmaaGreatDoor
open Go.RowKit

theorem opsCheck_in (l : List Opn) (v : Value) (w : World) (hlen : l.length ≤ 60) (hl : OpsIn w v l) :
    Calls Tryz.prog 19 #[v] w fun e w' => ∃ n, e = .returned (.int .i64 n) ∧ Told l n ∧ Below w.heap.size w w' := by
  obtain ⟨a, cap, rfl, hc, hm, h⟩ := hl
  rcases h with rfl | ⟨b, off, rfl, hlt, h⟩
  · exact (opsCheck_none a cap w).mono fun e w' ⟨he, hw⟩ => ⟨0, he, told0 _ (by simp) (fun j hj => by simp at hj), by rw [hw]; exact Below.refl _ _⟩
  · exact opsCheck_any l b off cap w hlen hc h hlt

set_option maxRecDepth 100000 in
set_option maxHeartbeats 2000000 in
theorem refLinCheck_any (o bud : Int) (ops : List Opn) (u : Value) (w : World) (hlen : ops.length ≤ 60) (hl : OpsIn w u ops) :
    Calls Tryz.prog 11 #[.int .i64 o, u, .int .i64 bud] w fun e w' => ∃ n, e = .returned (.int .i64 n) ∧ LcTold o bud ops n ∧ Below w.heap.size w w' := by
  have HC := hideIt (opsCheck_in ops u w hlen hl)
  obtain ⟨a, cap, rfl, hc, hm, hops⟩ := hl
  have HOP : Hid (∀ n, (hn : n < ops.length) → ∃ b off, a = some ⟨b, off, none⟩ ∧ ∀ wr, Below w.heap.size w wr → OpAt wr b (off + n * 8) ops[n]) := hideIt (fun n hn => by
    obtain h | ⟨b, off, e, hlt, hc⟩ := hops
    · subst h; simp at hn
    · exact ⟨b, off, e, fun wr hW => (hc n hn).below hlt hW⟩)
  clear hops
  by_cases h1 : o < 1
  · have h1' : decide (o < 1) = true := by simpa using h1
    have HR : Hid (LcTold o bud ops 1) := hideIt (.inl ⟨by simp [objB]; omega, rfl⟩)
    go_enter Tryz.func11, Tryz.ntmps11
    go_wp2
    go_ret
    exact ⟨1, rfl, HR.out, Below.refl _ _⟩
  · have h1' : decide (o < 1) = false := by simpa using h1
    by_cases h2 : 6 < o
    · have h2' : decide (6 < o) = true := by simpa using h2
      have HR : Hid (LcTold o bud ops 1) := hideIt (.inl ⟨by simp [objB]; omega, rfl⟩)
      go_enter Tryz.func11, Tryz.ntmps11
      go_wp2
      go_ret
      exact ⟨1, rfl, HR.out, Below.refl _ _⟩
    · have h2' : decide (6 < o) = false := by simpa using h2
      have HOB : Hid (objB o = true) := hideIt (by simp [objB]; omega)
      by_cases h3 : bud < 0
      · have h3' : decide (bud < 0) = true := by simpa using h3
        have HR : Hid (LcTold o bud ops 2) := hideIt (.inr (.inl ⟨HOB.out, .inl h3, rfl⟩))
        go_enter Tryz.func11, Tryz.ntmps11
        go_wp2
        go_ret
        exact ⟨2, rfl, HR.out, Below.refl _ _⟩
      · have h3' : decide (bud < 0) = false := by simpa using h3
        by_cases h4 : 1000000 < bud
        · have h4' : decide (1000000 < bud) = true := by simpa using h4
          have HR : Hid (LcTold o bud ops 2) := hideIt (.inr (.inl ⟨HOB.out, .inr h4, rfl⟩))
          go_enter Tryz.func11, Tryz.ntmps11
          go_wp2
          go_ret
          exact ⟨2, rfl, HR.out, Below.refl _ _⟩
        · have h4' : decide (1000000 < bud) = false := by simpa using h4
          have HR : Hid (∀ n, CkTold o ops n → LcTold o bud ops n) := hideIt (fun n h => .inr (.inr ⟨HOB.out, by omega, by omega, h⟩))
          go_enter Tryz.func11, Tryz.ntmps11
          go_wp2_with fail
          refine HC.out.mono ?_
          rintro e w1 ⟨n, rfl, ht, hb⟩
          have HT := hideIt ht
          have HB := hideIt hb
          clear ht hb
          by_cases hz : n = 0
          · subst hz
            go_wp2
            go_loopw [29] (fun i wr => ∃ k : Nat, k ≤ ops.length ∧ i = .int .i64 k ∧ (ops.take k).any (fun x => !knowsB o x.d) = false ∧ Below w.heap.size w wr) (fun i _ => ops.length - (intOf i).toNat)
            case atStart => exact ⟨0, Nat.zero_le _, rfl, rfl, HB.out⟩
            case round =>
              obtain ⟨k, hk, rfl, ha, hnx⟩ := hrel
              have HA := hideIt ha
              have HNX := hideIt hnx
              clear ha hnx
              by_cases hkl : k < ops.length
              · obtain ⟨b, offo, rfl, hop⟩ := HOP.out k hkl
                obtain ⟨c0, c1, c2, c3, c4, c5, c6, c7⟩ := hop _ HNX.out
                clear hop
                have HN2 := hideIt (belA HNX.out ops[k].obj)
                unfold Opn.obj at HN2
                have HKN := hideIt (refKnows_any o ops[k].d)
                cases hs : knowsB o ops[k].d
                · rw [hs] at HKN
                  have R1 : Hid (ops.any (fun x => !knowsB o x.d) = true) := hideIt (any_of ops _ k hkl (by simp [hs]))
                  clear hs
                  go_wp2_with (go_at_call 20; refine (HKN.out _).mono ?_; rintro e w2 ⟨rfl, rfl⟩)
                  go_ret
                  exact ⟨1, rfl, HR.out 1 (.inr (.inl ⟨HT.out, R1.out, rfl⟩)), HN2.out⟩
                · rw [hs] at HKN
                  have R1 : Hid ((ops.take (k + 1)).any (fun x => !knowsB o x.d) = false) := hideIt (any_take_succ ops _ k hkl HA.out (by simp [hs]))
                  clear hs
                  go_wp2_with (go_at_call 20; refine (HKN.out _).mono ?_; rintro e w2 ⟨rfl, rfl⟩)
                  go_roundw
                  case rel => exact ⟨k + 1, by omega, by go_num, R1.out, HN2.out⟩
                  case measure => simp [intOf]; omega
              · have R1 : Hid (ops.any (fun x => !knowsB o x.d) = false) := hideIt (by
                  have h := HA.out
                  rw [List.take_of_length_le (by omega)] at h
                  exact h)
                go_wp2
                go_ret
                exact ⟨0, rfl, HR.out 0 (.inr (.inr ⟨HT.out, R1.out, rfl⟩)), HNX.out⟩
          · have hz' : (n != 0) = true := by simp [hz]
            go_wp2
            go_ret
            exact ⟨n, rfl, HR.out n (.inl ⟨hz, HT.out⟩), HB.out⟩

end Go.Proofs.YtkbjaneekblgmaaGreatDoor
