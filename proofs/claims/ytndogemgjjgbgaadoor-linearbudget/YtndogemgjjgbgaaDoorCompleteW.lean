/-
  The statement LinearComplete walked: whatever the object, the ops, the order and the budget, true.
-/
import Derived.Test.YtndogemgjjgbgaaDoorPickW
namespace Go.Proofs.YtndogemgjjgbgaaDoor
open Go.RowKit

theorem shows_nat {o : Int} {ops : List Opn} {ord : List Int} (h : ShowsM o ops ord) : ∃ l, ord = iL l := by
  refine ⟨ord.map Int.toNat, ?_⟩
  unfold iL
  rw [List.map_map]
  conv => lhs; rw [← List.map_id ord]
  apply List.map_congr_left
  intro x hx
  have := (h.range x hx).1
  simp; omega
theorem shows_not_invalid {o : Int} {ops : List Opn} {ord : List Int} {bud : Nat} (ht : Told ops 0) (h : ShowsM o ops ord) : (searchM (srB o ops bud)).code ≠ 2 := by
  obtain ⟨l, rfl⟩ := shows_nat h
  intro hc
  exact search_dead (own_srB (told_keysN ht)) hc (shows_comp (c := srB o ops bud) h (fun _ _ _ _ _ h => h))
/-- Where Check tells an error, Shows does. -/
theorem sh_err {o bud : Int} {ops : List Opn} {ord : List Int} {w : World} {e : Ending} {w' : World} {n : Int} (h : ShTold o ops ord w e w') (hn : n ≠ 0) (hl : LcTold o bud ops n) (hb : 0 ≤ bud ∧ bud ≤ 1000000) : ∃ m, m ≠ 0 ∧ e = .returned (.tuple #[.bool false, toldV m]) := by
  obtain ⟨_, ⟨_, he⟩ | ⟨_, m, hm, _, he⟩ | ⟨ho, hc, _⟩⟩ := h
  · exact ⟨1, by decide, he⟩
  · exact ⟨m, hm, he⟩
  · exfalso
    rcases hl with ⟨ho', _⟩ | ⟨_, h, _⟩ | ⟨_, _, _, h⟩
    · rw [ho] at ho'; cases ho'
    · omega
    · exact hn (ckTold_one h hc)

set_option maxRecDepth 100000 in
set_option maxHeartbeats 2000000 in
theorem linearComplete_walk (o : Int) (ops : List Opn) (ord : List Int) (bud : Int) (u v : Value) (w : World) (hl : OpsIn w u ops) (hv : HasInts w v ord) (hK : KnownAt w) :
    Calls Tryd.prog 5 #[.int .i64 o, u, v, .int .i64 bud] w fun e w' => e = .returned (.bool true) ∧ Below w.heap.size w w' := by
  have hpos : 0 < w.heap.size := World.block_lt_of_cell? w ⟨0, 0 * 13 + 0, none⟩ (hK 0 0 (by decide) (by decide))
  by_cases h1 : 30 < ops.length
  · obtain ⟨a, cap, rfl, hc, hm, _⟩ := hl
    unfold maxLen at hm
    have h1' : decide (30 < (ops.length : Int)) = true := by simp; omega
    go_enter Tryd.func5, Tryd.ntmps5
    go_wp2
    go_ret
    exact ⟨rfl, Below.refl _ _⟩
  · have h1' : decide (30 < (ops.length : Int)) = false := by simp; omega
    by_cases h2 : 40 < ord.length
    · obtain ⟨a, cap, rfl, hc, hm, _⟩ := hl
      obtain ⟨a', cap', rfl, hm1, hm2, _⟩ := hv
      unfold maxLen at hm hm2
      have h2' : decide (40 < (ord.length : Int)) = true := by simp; omega
      go_enter Tryd.func5, Tryd.ntmps5
      go_wp2
      go_ret
      exact ⟨rfl, Below.refl _ _⟩
    · have h2' : decide (40 < (ord.length : Int)) = false := by simp; omega
      have HP : Hid (∀ w1, Calls Tryd.prog 13 #[.int .i64 bud, .int .i64 3000] w1 fun e w' => ∃ k : Nat, k < 3000 ∧ e = .returned (.int .i64 k) ∧ w' = w1) := hideIt (fun w1 => pick_any bud 3000 w1 (by decide) (by decide))
      have HC : Hid (∀ (k : Nat) w1, Below w.heap.size w w1 → Calls Tryd.prog 11 #[.int .i64 o, u, .int .i64 k] w1 fun e w' => JTold o k ops w1 e w') := hideIt (fun k w1 hb => check_any o k ops u w1 (by omega) (hl.below hb) (hK.below hpos hb))
      have HT : Hid (∀ w1, Below w.heap.size w w1 → Calls Tryd.prog 12 #[] w1 fun e w' => e = .returned (.bool true) ∧ Below w1.heap.size w1 w') := hideIt (fun w1 hb => toldK_any w1 (hK.below hpos hb))
      have HS := hideIt (shows_any o ops ord u v w (by omega) (by omega) hl hv hK)
      obtain ⟨a, cap, rfl, hc, hm, _⟩ := hl
      obtain ⟨a', cap', rfl, hm1, hm2, _⟩ := hv
      unfold maxLen at hm hm2
      clear hK
      go_enter Tryd.func5, Tryd.ntmps5
      go_wp2_with fail
      refine HS.out.mono ?_
      intro e w1 hsh
      have HB1 := hideIt hsh.1
      have HSH := hideIt hsh
      have hshe : ∃ b m, e = .returned (.tuple #[.bool b, toldV m]) := by
        obtain ⟨_, ⟨_, he⟩ | ⟨_, m, _, _, he⟩ | ⟨_, _, b, _, he⟩⟩ := hsh
        · exact ⟨_, _, he⟩
        · exact ⟨_, _, he⟩
        · exact ⟨b, 0, by rw [toldV_zero]; exact he⟩
      obtain ⟨b, m, rfl⟩ := hshe
      clear hsh
      have htv : toldV m = .nilIface ∧ m = 0 ∨ toldV m = .iface 24 (.int .i64 m) ∧ m ≠ 0 := by
        by_cases h : m = 0
        · exact .inl ⟨by rw [h, toldV_zero], h⟩
        · exact .inr ⟨toldV_some h, h⟩
      generalize hTM : toldV m = tm at htv
      have HTM := hideIt hTM
      clear hTM
      go_wp2_with fail
      refine (HP.out _).mono ?_
      rintro e w1' ⟨k, hk3, rfl, hw⟩
      subst hw
      go_wp2_with fail
      refine (HC.out k _ HB1.out).mono ?_
      rintro e w2 ⟨hb2, ⟨n, hn, hlc, rfl⟩ | ⟨hlc, ov, rfl, ho1, ho2⟩⟩
      · obtain ⟨m', hm', he'⟩ := sh_err HSH.out hn hlc (by omega)
        have hmm : m ≠ 0 := by
          intro e
          have h2 : b = false ∧ toldV m = toldV m' := by simpa using he'
          have h3 := h2.2
          rw [e, toldV_zero, toldV_some hm'] at h3
          cases h3
        obtain ⟨htv, _⟩ : tm = .iface 24 (.int .i64 m) ∧ m ≠ 0 := by
          rcases htv with ⟨_, h⟩ | h
          · exact absurd h hmm
          · exact h
        subst htv
        rw [toldV_some hn]
        have HV : Hid (Below w.heap.size w (w2.alloc (.cells #[.int .i64 0, .slice none 0 0, .int .i64 0] 33))) := hideIt (belA (belJ HB1.out hb2) _)
        clear hb2 hlc he' hmm
        go_wp2_with fail
        refine (HT.out _ HV.out).mono ?_
        rintro e w3 ⟨rfl, hb3⟩
        have HV3 := hideIt (belJ HV.out hb3)
        clear hb3
        go_wp2_with fail
        refine (HT.out _ HV3.out).mono ?_
        rintro e w4 ⟨rfl, hb4⟩
        have HV4 := hideIt (belJ HV3.out hb4)
        clear hb4
        go_wp2
        go_ret
        exact ⟨rfl, HV4.out⟩
      · obtain ⟨hob, hck, _, _⟩ := lc_zero hlc
        obtain ⟨b', he', hbb⟩ := sh_zero HSH.out hob hck
        have hbt : b = b' ∧ tm = .nilIface := by
          have h2 : b = b' ∧ toldV m = .nilIface := by simpa using he'
          exact ⟨h2.1, HTM.out.symm.trans h2.2⟩
        obtain ⟨rfl, rfl⟩ := hbt
        have hov : ∃ a l c, ov = .slice a l c := by
          by_cases h1 : (searchM (srB o ops (k : Int).toNat)).code = 1
          · obtain ⟨a, c, e⟩ := ownsRow_slice (ho1 h1); exact ⟨a, _, c, e⟩
          · exact ⟨_, _, _, ho2 h1⟩
        obtain ⟨va, vl, vc, rfl⟩ := hov
        have hcd : b = true → ((searchM (srB o ops (k : Int).toNat)).code : Int) ≠ 2 := fun h => by
          have := shows_not_invalid (bud := (k : Int).toNat) (ckTold_told hck) (hbb.1 h)
          omega
        generalize ((searchM (srB o ops (k : Int).toNat)).code : Int) = xc at hcd ⊢
        generalize ((searchM (srB o ops (k : Int).toNat)).ent.length : Int) = xe
        have HV : Hid (Below w.heap.size w (w2.alloc (.cells #[.int .i64 xc, .slice va vl vc, .int .i64 xe] 33))) := hideIt (belA (belJ HB1.out hb2) _)
        clear hb2 hlc ho1 ho2 htv hbb he' HSH HTM hob hck
        go_wp2_with fail
        refine (HT.out _ HV.out).mono ?_
        rintro e w3 ⟨rfl, hb3⟩
        have e3 : w3.heap[w2.heap.size]? = some (.cells #[.int .i64 xc, .slice va vl vc, .int .i64 xe] 33 (0, 0)) := (hb3.block w2.heap.size (by simp)).trans (heap_alloc_new w2 _)
        have d0 : w3.cell? ⟨w2.heap.size, 0, none⟩ = some (.int .i64 xc) := cell_of_row w3 _ _ _ 33 (0, 0) e3
        have HV3 := hideIt (belJ HV.out hb3)
        clear hb3 e3
        cases b
        · clear hcd
          go_wp2
          go_ret
          exact ⟨rfl, HV3.out⟩
        · have hx : (xc != 2) = true := by rw [bne_iff_ne]; exact hcd rfl
          clear hcd
          go_wp2
          go_ret
          exact ⟨rfl, HV3.out⟩

end Go.Proofs.YtndogemgjjgbgaaDoor
