/-
  The reader's numbers.
-/
import Derived.Test.YthblokfiojccmaaGreatDoorRdA
import Derived.Test.YthblokfiojccmaaGreatDoorLbW
import Derived.Test.YthblokfiojccmaaGreatDoorGpP
namespace Go.Proofs.YthblokfiojccmaaGreatDoor.Gn
open Go.RowKit


set_option maxHeartbeats 4000000 in
set_option maxRecDepth 100000 in
theorem isNumber_any (t : Bt) (w : World) (ht : t.length ≤ 2500) :
    Calls Tryz.prog 31 #[.string (ba t)] w fun e w' => e = .returned (.bool (isNum t)) ∧ Fr [] w w' := by
  have HP := hideIt (fun W => trimPrefix_call t [45] W)
  have hdl : (Lib.trimPrefix t [45]).length ≤ 3000 := by
    unfold Lib.trimPrefix
    split
    · rw [List.length_drop]; omega
    · omega
  have HT := hideIt (fun W => trim_call (Lib.trimPrefix t [45]) W hdl)
  have hb2 : ∀ b, (if Lib.trimS (Lib.trimPrefix t [45]) digs ≠ [] then false else (t = [48] || (Lib.trimPrefix t [45] ≠ [] && (Lib.trimPrefix t [45]).headD 0 != 48))) = b → isNum t = b := fun b h => h
  clear hdl
  generalize Lib.trimPrefix t [45] = d at *
  generalize Lib.trimS d digs = tr at *
  have e1 := ba_list t
  have e2 := ba_list d
  have e3 := ba_list tr
  by_cases htr : tr = []
  · subst htr
    rw [if_neg (by simp)] at hb2
    by_cases h0 : t = [48]
    · have hB := hideIt (hb2 true (by simp [h0]))
      have q0 : (t == [48]) = true := by simp [h0]
      clear hb2 h0
      go_enter Tryz.func31, Tryz.ntmps31
      go_wp2_with fail
      refine (HP.out _).mono ?_
      rintro y w1 ⟨rfl, rfl⟩
      go_wp2_with fail
      refine (HT.out _).mono ?_
      rintro y w2 ⟨rfl, hb2⟩
      have HF2 := hideIt (fr_below hb2 [])
      clear hb2
      go_wp2
      go_ret
      exact ⟨by rw [hB.out]; rfl, HF2.out⟩
    · have q0 : (t == [48]) = false := by simp [h0]
      cases d with
      | nil =>
        have hB := hideIt (hb2 false (by simp [h0]))
        clear hb2 h0
        go_enter Tryz.func31, Tryz.ntmps31
        go_wp2_with fail
        refine (HP.out _).mono ?_
        rintro y w1 ⟨rfl, rfl⟩
        go_wp2_with fail
        refine (HT.out _).mono ?_
        rintro y w2 ⟨rfl, hb2⟩
        have HF2 := hideIt (fr_below hb2 [])
        clear hb2
        go_wp2
        go_ret
        exact ⟨by rw [hB.out]; rfl, HF2.out⟩
      | cons c d =>
        have hs : 0 < (ba (c :: d)).size := by rw [ba_size]; simp
        have hv : ((ba (c :: d))[0]'hs).toNat = c.toNat := rfl
        cases hc : (c != 48) with
        | true =>
          have hB := hideIt (hb2 true (by simp only [List.headD_cons, hc]; simp))
          have q2 : ((((ba (c :: d))[0]'hs).toNat : Int) != 48) = true := by
            rw [hv]
            have : c ≠ 48 := by simpa using hc
            have h2 : c.toNat ≠ 48 := fun e => this (UInt8.toNat_inj.1 e)
            simp; omega
          clear hb2 h0 hc hv
          go_enter Tryz.func31, Tryz.ntmps31
          go_wp2_with fail
          refine (HP.out _).mono ?_
          rintro y w1 ⟨rfl, rfl⟩
          go_wp2_with fail
          refine (HT.out _).mono ?_
          rintro y w2 ⟨rfl, hb2⟩
          have HF2 := hideIt (fr_below hb2 [])
          clear hb2
          go_wp2
          go_ret
          exact ⟨by rw [hB.out]; rfl, HF2.out⟩
        | false =>
          have hB := hideIt (hb2 false (by simp only [List.headD_cons, hc]; simp [h0]))
          have q2 : ((((ba (c :: d))[0]'hs).toNat : Int) != 48) = false := by
            rw [hv]
            have : c = 48 := by simpa using hc
            rw [this]; rfl
          clear hb2 h0 hc hv
          go_enter Tryz.func31, Tryz.ntmps31
          go_wp2_with fail
          refine (HP.out _).mono ?_
          rintro y w1 ⟨rfl, rfl⟩
          go_wp2_with fail
          refine (HT.out _).mono ?_
          rintro y w2 ⟨rfl, hb2⟩
          have HF2 := hideIt (fr_below hb2 [])
          clear hb2
          go_wp2
          go_ret
          exact ⟨by rw [hB.out]; rfl, HF2.out⟩
  · have hB := hideIt (hb2 false (by rw [if_pos htr]))
    have q0 : tr.isEmpty = false := by cases tr with
      | nil => exact absurd rfl htr
      | cons _ _ => rfl
    clear hb2
    go_enter Tryz.func31, Tryz.ntmps31
    go_wp2_with fail
    refine (HP.out _).mono ?_
    rintro y w1 ⟨rfl, rfl⟩
    go_wp2_with fail
    refine (HT.out _).mono ?_
    rintro y w2 ⟨rfl, hb2⟩
    have HF2 := hideIt (fr_below hb2 [])
    clear hb2
    go_wp2
    go_ret
    exact ⟨by rw [hB.out]; rfl, HF2.out⟩
end Go.Proofs.YthblokfiojccmaaGreatDoor.Gn
