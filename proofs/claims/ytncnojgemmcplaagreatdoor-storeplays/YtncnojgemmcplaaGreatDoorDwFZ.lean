/-
  The document's store, walked: GiveUp, small.
  The document's store, walked: Begin.
-/
import Derived.Test.YtncnojgemmcplaaGreatDoorDwDZ
namespace Go.Proofs.YtncnojgemmcplaaGreatDoor.St.Dc
open Go.RowKit

theorem updC_updC (f : Int → Cl) (c : Int) (x y : Cl) : updC (updC f c x) c y = updC f c y := by funext d; unfold updC; split <;> rfl
section
variable {w0 W W' : World} {K : DoK} {S : Sto}
set_option maxRecDepth 100000 in
set_option maxHeartbeats 8000000 in
theorem giveD_any (h : DoR w0 W K S) (hp : DoPl K S) (hs : S.seen.length ≤ 1000) (c : Int) :
    Calls Tryz.prog 36 #[.pointer (some ⟨K.B, 0, none⟩), .int .i64 c] W fun e w' => e = .returned (.int .i64 (giveE S c)) ∧ DoTold 0 w0 K S W (if giveE S c ≠ 0 then S else giveS S c) w' := by
  have c10 := h.cells.2.2.2.2.1
  have HP := hideIt h
  have HPl := hideIt hp
  by_cases h0 : c < 0
  · have g0 : decide (c < 0) = true := decide_eq_true h0
    have HE : Hid (giveE S c = 2) := by show _ = _; unfold giveE; rw [if_pos (.inl h0)]
    rw [HE.out, if_pos (by decide)]
    clear h h0 HE hp
    go_enter Tryz.func36, Tryz.ntmps36
    go_wp2
    go_ret
    exact ⟨rfl, K, HP.out, HPl.out, Nat.le_refl _, DFr.refl _ _ _⟩
  have g0 : decide (c < 0) = false := decide_eq_false h0
  by_cases h1 : (S.k : Int) ≤ c
  · have g1 : decide (c ≥ (S.k : Int)) = true := decide_eq_true h1
    have HE : Hid (giveE S c = 2) := by show _ = _; unfold giveE; rw [if_pos (.inr h1)]
    rw [HE.out, if_pos (by decide)]
    clear h h0 h1 HE hp
    go_enter Tryz.func36, Tryz.ntmps36
    go_wp2
    go_ret
    exact ⟨rfl, K, HP.out, HPl.out, Nat.le_refl _, DFr.refl _ _ _⟩
  have g1 : decide (c ≥ (S.k : Int)) = false := decide_eq_false h1
  obtain ⟨i, rfl⟩ : ∃ i : Nat, c = i := ⟨c.toNat, by omega⟩
  have hik : i < S.k := by omega
  have hik' : (i : Int) < (S.k : Int) := by omega
  obtain ⟨_, _, _, hcl⟩ := h.client hik
  obtain ⟨b0, _⟩ := hcl W (Below.refl _ _)
  by_cases gb : ¬ (S.cl i).busy = true
  · have gb' : (S.cl i).busy = false := by simpa using gb
    rw [gb'] at b0
    have HE : Hid (giveE S (i : Int) = 6) := by show _ = _; unfold giveE; rw [if_neg (by omega), if_pos gb']
    rw [HE.out, if_pos (by decide)]
    clear h h0 h1 hcl gb gb' HE hp
    go_enter Tryz.func36, Tryz.ntmps36
    go_wp2
    go_ret
    exact ⟨rfl, K, HP.out, HPl.out, Nat.le_refl _, DFr.refl _ _ _⟩
  replace gb : (S.cl i).busy = true := Classical.not_not.1 gb
  rw [gb] at b0
  have HE : Hid (giveE S (i : Int) = 0) := by show _ = _; unfold giveE; rw [if_neg (by omega), if_neg (by rw [gb]; decide)]
  rw [HE.out, if_neg (fun h => h rfl)]
  have HSee := hideIt (seeD_any h hs hik 4 0 zeroS)
  unfold zeroS at HSee
  have HG : Hid (giveS S (i : Int) = { S with seen := S.seen ++ [snOf (i : Int) (S.cl i) 4 0 ⟨0, 0⟩], cl := updC S.cl (i : Int) { S.cl i with busy := false, gone := true } }) := rfl
  generalize giveS S (i : Int) = Sg at HG ⊢
  clear h h0 h1 hcl HE hp gb
  go_enter Tryz.func36, Tryz.ntmps36
  go_wp2_with fail
  refine HSee.out.mono ?_
  clear HSee
  rintro e W2 ⟨rfl, K2, ⟨hP2, hraw⟩, hF2⟩
  have c102 : W2.cell? ⟨K.B, 10, none⟩ = some (.slice (some ⟨K.C, 0, none⟩) S.k S.k) := by
    have := hP2.cells.2.2.2.2.1
    rw [hF2.fix.1, hF2.fix.2.1] at this
    exact this
  have hcb : ∃ cur, W2.heap[K.C]? = some (.cells cur 107 (0, 0)) := by rw [← hF2.fix.2.1]; exact (hP2.facts .C trivial).1
  have hx : DcAt W2 K.C (i * 11) (S.cl i) (K2.cv i) := by rw [← hF2.fix.2.1]; exact (hP2.facts .C trivial).2.1 i hik
  have hO : OnlyC W2 (((W2).setCell ⟨K.C, i * 11, none⟩ (.bool false)).setCell ⟨K.C, i * 11 + 1, none⟩ (.bool true)) K.C (i * 11) 11 107 := (((OnlyC.refl hcb)).set (by omega) _).set (by omega) _
  have hC : DcAt (((W2).setCell ⟨K.C, i * 11, none⟩ (.bool false)).setCell ⟨K.C, i * 11 + 1, none⟩ (.bool true)) K.C (i * 11) { S.cl i with busy := false, gone := true } (K2.cv i) := by
    refine ⟨?_, ?_, ?_, ?_, ?_, ?_, ?_, ⟨?_, ?_, ?_⟩, ?_⟩
    · rw [World.cell?_setCell_other _ _ _ _ (offNe (by omega))]
      exact World.cell?_setCell_same' _ _ _ (by rw [hx.busy]; rfl)
    · exact World.cell?_setCell_same' _ _ _ (by rw [World.cell?_setCell_other _ _ _ _ (offNe (by omega)), hx.gone]; rfl)
    · rw [World.cell?_setCell_other _ _ _ _ (offNe (by omega)), World.cell?_setCell_other _ _ _ _ (offNe (by omega))]
      exact hx.write
    · rw [World.cell?_setCell_other _ _ _ _ (offNe (by omega)), World.cell?_setCell_other _ _ _ _ (offNe (by omega))]
      exact hx.tells
    · rw [World.cell?_setCell_other _ _ _ _ (offNe (by omega)), World.cell?_setCell_other _ _ _ _ (offNe (by omega))]
      exact hx.key
    · rw [World.cell?_setCell_other _ _ _ _ (offNe (by omega)), World.cell?_setCell_other _ _ _ _ (offNe (by omega))]
      exact hx.value
    · rw [World.cell?_setCell_other _ _ _ _ (offNe (by omega)), World.cell?_setCell_other _ _ _ _ (offNe (by omega))]
      exact hx.rd
    · rw [World.cell?_setCell_other _ _ _ _ (offNe (by omega)), World.cell?_setCell_other _ _ _ _ (offNe (by omega))]
      exact hx.kept.1
    · rw [World.cell?_setCell_other _ _ _ _ (offNe (by omega)), World.cell?_setCell_other _ _ _ _ (offNe (by omega))]
      exact hx.kept.2.1
    · rw [World.cell?_setCell_other _ _ _ _ (offNe (by omega)), World.cell?_setCell_other _ _ _ _ (offNe (by omega))]
      exact hx.kept.2.2
    · rw [World.cell?_setCell_other _ _ _ _ (offNe (by omega)), World.cell?_setCell_other _ _ _ _ (offNe (by omega))]
      exact hx.cv
  have hSC := hP2.setC (i := i) hik (x := { S.cl i with busy := false, gone := true }) (cv := K2.cv i) (W' := ((W2).setCell ⟨K.C, i * 11, none⟩ (.bool false)).setCell ⟨K.C, i * 11 + 1, none⟩ (.bool true)) (by rw [hF2.fix.2.1]; exact hO) (by rw [hF2.fix.2.1]; exact hC) (.inl ⟨rfl, rfl⟩)
  have hself : updP K2.cv i (K2.cv i) = K2.cv := updP_self _ _
  have HR : Hid (DoTold 0 w0 K S W Sg (((W2).setCell ⟨K.C, i * 11, none⟩ (.bool false)).setCell ⟨K.C, i * 11 + 1, none⟩ (.bool true)).drew) := by
    rw [HG.out]
    obtain ⟨a, b⟩ := hSC
    have hd : Below (((W2).setCell ⟨K.C, i * 11, none⟩ (.bool false)).setCell ⟨K.C, i * 11 + 1, none⟩ (.bool true)).heap.size (((W2).setCell ⟨K.C, i * 11, none⟩ (.bool false)).setCell ⟨K.C, i * 11 + 1, none⟩ (.bool true)) (((W2).setCell ⟨K.C, i * 11, none⟩ (.bool false)).setCell ⟨K.C, i * 11 + 1, none⟩ (.bool true)).drew := (Below.refl _ _).drew
    exact ⟨_, a.below hd, HPl.out.raw hraw ⟨rfl, rfl, rfl⟩, by show K2.lt.length ≤ _; rw [hraw.2.1]; exact Nat.le_refl _, hF2.trans (b.trans (DFr.below hd))⟩
  have y0 := hx.busy
  have y1 := hx.gone
  have f0 : W2.frozen? ⟨K.C, i * 11, none⟩ = false := by rw [← hF2.fix.2.1]; exact hP2.fzC _
  have f1 : W2.frozen? ⟨K.C, i * 11 + 1, none⟩ = false := by rw [← hF2.fix.2.1]; exact hP2.fzC _
  have hnB : ¬ K.B = K.C := fun e => by
    have := hP2.apart (p := .B) (q := .C) trivial trivial (fun e => by cases e) (b := K.B) (by show some K2.B = _; rw [hF2.fix.1])
    exact this (by show some K2.C = _; rw [hF2.fix.2.1, e])
  have hnC : ¬ K.C = K.B := fun e => hnB e.symm
  clear hSC hself hO hC hx hcb hP2 hF2 hraw HP HPl b0 c10
  go_upto_region 6 with fail
  go_region
  all_goals go_wp2
  all_goals go_ret
  all_goals exact ⟨rfl, HR.out⟩
end
set_option maxRecDepth 100000 in
theorem small_any (v : Int) (g : Nat) (w : World) (hg : w.cell? ⟨g, 0, none⟩ = some (.int .i64 v)) : Calls Tryz.prog 65 #[.slice (some ⟨g, 0, none⟩) 1 1] w fun e w' => e = .returned (.bool (numB v)) ∧ w' = w := by
  have HE : Hid (numB v = (!decide (v < -1000000) && !decide (v > 1000000))) := by
    show _ = _
    unfold numB
    by_cases h1 : v < -1000000 <;> by_cases h2 : v > 1000000 <;> simp [h1, h2] <;> omega
  generalize numB v = r at HE ⊢
  go_enter Tryz.func65, Tryz.ntmps65
  go_wp2
  go_loopw [7] (fun x wr => ∃ j : Nat, j ≤ 1 ∧ x = .int .i64 j ∧ wr = w ∧ (j = 1 → r = true)) (fun x _ => 1 - (intOf x).toNat)
  case atStart => exact ⟨0, Nat.zero_le _, rfl, rfl, fun h => absurd h (by decide)⟩
  case round =>
    obtain ⟨j, hj, rfl, rfl, hr⟩ := hrel
    by_cases h0 : j = 0
    · subst h0
      clear hr
      by_cases h1 : v < -1000000
      · have d1 : decide (v < -1000000) = true := decide_eq_true h1
        have HR : Hid (r = false) := by show _ = _; rw [HE.out, d1]; rfl
        clear h1 HE
        go_wp2
        go_ret
        exact ⟨ret_bool HR.out.symm, rfl⟩
      · have d1 : decide (v < -1000000) = false := decide_eq_false h1
        by_cases h2 : v > 1000000
        · have d2 : decide (v > 1000000) = true := decide_eq_true h2
          have HR : Hid (r = false) := by show _ = _; rw [HE.out, d1, d2]; rfl
          clear h1 h2 HE
          go_wp2
          go_ret
          exact ⟨ret_bool HR.out.symm, rfl⟩
        · have d2 : decide (v > 1000000) = false := decide_eq_false h2
          have HR : Hid (r = true) := by show _ = _; rw [HE.out, d1, d2]; rfl
          clear h1 h2 HE
          go_wp2
          go_roundw
          case rel => exact ⟨1, Nat.le_refl _, by go_num, trivial, fun _ => HR.out⟩
          case measure => simp [intOf]
    · have h1 : j = 1 := by omega
      have HR : Hid (r = true) := hr h1
      have hd : ¬ (j : Int) < 1 := by omega
      clear hr h1 HE
      go_wp2
      go_ret
      exact ⟨ret_bool HR.out.symm, rfl⟩
end Go.Proofs.YtncnojgemmcplaaGreatDoor.St.Dc

namespace Go.Proofs.YtncnojgemmcplaaGreatDoor.St.Dc
open Go.RowKit

section
variable {w0 W W' : World} {K : DoK} {S : Sto}
theorem round_begin (S : Sto) (i : Nat) (key : Int) (wr : Bool) (v : Int) : roundS { S with cl := updC S.cl i (beginC (S.cl i) key wr v), seen := S.seen ++ [snOf i (beginC (S.cl i) key wr v) 1 0 zeroS] } i (beginC (S.cl i) key wr v) = beginS S i key wr v := by
  unfold beginS roundS
  dsimp only
  rw [updC_updC]
set_option maxRecDepth 100000 in
set_option maxHeartbeats 8000000 in
theorem beginD_any (h : DoR w0 W K S) (hp : DoPl K S) (hn7 : S.n ≤ 7) (hk8 : S.k ≤ 8) (hs : S.seen.length ≤ 900) (hrd : ∀ i : Nat, i < S.k → 0 ≤ (S.cl i).rd ∧ (S.cl i).rd ≤ 100000) (h5 : S.mails.length ≤ 500) (hlt : K.lt.length ≤ 40000) (c key : Int) (wr : Bool) (v : Int) :
    Calls Tryz.prog 32 #[.pointer (some ⟨K.B, 0, none⟩), .int .i64 c, .int .i64 key, .bool wr, .int .i64 v] W fun e w' => e = .returned (.int .i64 (beginE S c key wr v)) ∧ DoTold 7 w0 K S W (if beginE S c key wr v ≠ 0 then S else beginS S c key wr v) w' := by
  have HP := hideIt h
  have HPl := hideIt hp
  have HKp : Hid (∀ Z, Below W.heap.size W Z → DoTold 7 w0 K S W S Z) := fun Z hZ => ⟨K, h.below hZ, hp, Nat.le_add_right _ _, DFr.below hZ⟩
  by_cases k0 : key < 0
  · have d0 : decide (key < 0) = true := decide_eq_true k0
    have HE : Hid (beginE S c key wr v = 2) := by show _ = _; unfold beginE; rw [if_pos (.inl k0)]
    rw [HE.out, if_pos (by decide)]
    clear h hp HP HPl HE k0
    go_enter Tryz.func32, Tryz.ntmps32
    go_wp2
    go_ret
    exact ⟨rfl, HKp.out _ (Below.refl _ _)⟩
  have d0 : decide (key < 0) = false := decide_eq_false k0
  by_cases k7 : 7 < key
  · have d1 : decide (key > 7) = true := decide_eq_true k7
    have HE : Hid (beginE S c key wr v = 2) := by show _ = _; unfold beginE; rw [if_pos (.inr (.inl k7))]
    rw [HE.out, if_pos (by decide)]
    clear h hp HP HPl HE k0 k7
    go_enter Tryz.func32, Tryz.ntmps32
    go_wp2
    go_ret
    exact ⟨rfl, HKp.out _ (Below.refl _ _)⟩
  have d1 : decide (key > 7) = false := decide_eq_false k7
  have hb1 := belA (Below.refl W.heap.size W) (.cells #[.int .i64 v] 3)
  have HB1 := hideIt hb1
  have HSm := hideIt (small_any v W.heap.size (W.alloc (.cells #[.int .i64 v] 3)) (by rw [cell_of_row _ _ _ _ 3 _ (heap_alloc_new W _)]; rfl))
  by_cases kn : numB v = false
  · have HE : Hid (beginE S c key wr v = 2) := by show _ = _; unfold beginE; rw [if_pos (.inr (.inr (.inl kn)))]
    rw [HE.out, if_pos (by decide)]
    rw [kn] at HSm
    clear h hp HP HPl HE k0 k7 hb1 kn
    go_enter Tryz.func32, Tryz.ntmps32
    go_wp2_with fail
    refine HSm.out.mono ?_
    rintro e W2 ⟨rfl, rfl⟩
    go_wp2
    go_ret
    exact ⟨rfl, HKp.out _ HB1.out⟩
  replace kn : numB v = true := by simpa using kn
  rw [kn] at HSm
  by_cases kw : v ≠ 0 ∧ wr = false
  · have HE : Hid (beginE S c key wr v = 2) := by show _ = _; unfold beginE; rw [if_pos (.inr (.inr (.inr kw)))]
    rw [HE.out, if_pos (by decide)]
    obtain ⟨kv, rfl⟩ := kw
    have d2 : (v != 0) = true := by simp [kv]
    clear h hp HP HPl HE k0 k7 hb1 kn kv
    go_enter Tryz.func32, Tryz.ntmps32
    go_wp2_with fail
    refine HSm.out.mono ?_
    rintro e W2 ⟨rfl, rfl⟩
    go_wp2
    go_ret
    exact ⟨rfl, HKp.out _ HB1.out⟩
  have HE : Hid (beginE S c key wr v = freeE S c) := by show _ = _; unfold beginE; rw [if_neg (by rintro (h | h | h | h); exact k0 h; exact k7 h; rw [kn] at h; cases h; exact kw h)]
  rw [HE.out]
  have HFr := hideIt (freeD_any (h.below hb1) hk8 (by omega) c)
  have HSp : Hid (∀ {P : Prop}, ((v != 0) = false → P) → ((v != 0) = true → wr = true → P) → P) := fun {P} h1 h2 => by
    cases e : (v != 0)
    · exact h1 e
    · refine h2 e ?_
      have hv : v ≠ 0 := by simpa using e
      cases wr
      · exact absurd ⟨hv, rfl⟩ kw
      · rfl
  by_cases hf : ¬ freeE S c = 0
  · rw [if_pos hf]
    have hne : (freeE S c != 0) = true := by simp [hf]
    generalize freeE S c = fe at *
    clear h hp HP HPl HE k0 k7 hb1 kn kw hf
    refine HSp.out (fun d2 => ?_) (fun d2 ew => ?_)
    · clear HSp
      go_enter Tryz.func32, Tryz.ntmps32
      go_wp2_with fail
      refine HSm.out.mono ?_
      rintro e W2 ⟨rfl, rfl⟩
      go_wp2_with fail
      refine HFr.out.mono ?_
      rintro e W3 ⟨rfl, hb3⟩
      have HB3 := hideIt (belJ HB1.out hb3)
      clear hb3
      go_wp2
      go_ret
      exact ⟨rfl, HKp.out _ HB3.out⟩
    · subst ew
      clear HSp
      go_enter Tryz.func32, Tryz.ntmps32
      go_wp2_with fail
      refine HSm.out.mono ?_
      rintro e W2 ⟨rfl, rfl⟩
      go_wp2_with fail
      refine HFr.out.mono ?_
      rintro e W3 ⟨rfl, hb3⟩
      have HB3 := hideIt (belJ HB1.out hb3)
      clear hb3
      go_wp2
      go_ret
      exact ⟨rfl, HKp.out _ HB3.out⟩
  replace hf : freeE S c = 0 := Classical.not_not.1 hf
  rw [hf, if_neg (fun h => h rfl)]
  rw [hf] at HFr
  obtain ⟨a1, a2, _, _⟩ := free_parts hf
  obtain ⟨i, rfl⟩ : ∃ i : Nat, c = i := ⟨c.toNat, by omega⟩
  have hik : i < S.k := by omega
  have hik' : (i : Int) < (S.k : Int) := by omega
  have HGo : Hid (∀ V, Below W.heap.size W V → (V.cell? ⟨K.B, 10, none⟩ = some (.slice (some ⟨K.C, 0, none⟩) S.k S.k) ∧ DcAt V K.C (i * 11) (S.cl i) (K.cv i) ∧ (∀ j, V.frozen? ⟨K.C, j, none⟩ = false)) ∧ Calls Tryz.prog 66 #[.pointer (some ⟨K.B, 0, none⟩), .int .i64 (i : Int), .int .i64 1, .int .i64 0, .agg #[.int .i64 0, .int .i64 0]] (((((((((V).setCell ⟨K.C, i * 11, none⟩ (.bool true)).setCell ⟨K.C, i * 11 + 2, none⟩ (.bool wr)).setCell ⟨K.C, i * 11 + 3, none⟩ (.bool false)).setCell ⟨K.C, i * 11 + 4, none⟩ (.int .i64 key)).setCell ⟨K.C, i * 11 + 5, none⟩ (.int .i64 v)).setCell ⟨K.C, i * 11 + 7, none⟩ (.int .i64 (-1))).setCell ⟨K.C, i * 11 + 8, none⟩ (.int .i64 (-1))).setCell ⟨K.C, i * 11 + 9, none⟩ (.int .i64 0)) fun en W' => en = .returned (.tuple #[]) ∧ Calls Tryz.prog 67 #[.pointer (some ⟨K.B, 0, none⟩), .int .i64 (i : Int)] W' fun en W'' => en = .returned (.tuple #[]) ∧ DoTold 7 w0 K S W (beginS S i key wr v) W'') := fun V hV => by
    have hV1 := h.below hV
    have hcb := (hV1.facts .C trivial).1
    have hx := (hV1.facts .C trivial).2.1 i hik
    refine ⟨⟨hV1.cells.2.2.2.2.1, hx, hV1.fzC⟩, ?_⟩
    have hO : OnlyC V (((((((((V).setCell ⟨K.C, i * 11, none⟩ (.bool true)).setCell ⟨K.C, i * 11 + 2, none⟩ (.bool wr)).setCell ⟨K.C, i * 11 + 3, none⟩ (.bool false)).setCell ⟨K.C, i * 11 + 4, none⟩ (.int .i64 key)).setCell ⟨K.C, i * 11 + 5, none⟩ (.int .i64 v)).setCell ⟨K.C, i * 11 + 7, none⟩ (.int .i64 (-1))).setCell ⟨K.C, i * 11 + 8, none⟩ (.int .i64 (-1))).setCell ⟨K.C, i * 11 + 9, none⟩ (.int .i64 0)) K.C (i * 11) 11 107 := (((((((((OnlyC.refl hcb)).set (by omega) _).set (by omega) _).set (by omega) _).set (by omega) _).set (by omega) _).set (by omega) _).set (by omega) _).set (by omega) _
    have hC : DcAt (((((((((V).setCell ⟨K.C, i * 11, none⟩ (.bool true)).setCell ⟨K.C, i * 11 + 2, none⟩ (.bool wr)).setCell ⟨K.C, i * 11 + 3, none⟩ (.bool false)).setCell ⟨K.C, i * 11 + 4, none⟩ (.int .i64 key)).setCell ⟨K.C, i * 11 + 5, none⟩ (.int .i64 v)).setCell ⟨K.C, i * 11 + 7, none⟩ (.int .i64 (-1))).setCell ⟨K.C, i * 11 + 8, none⟩ (.int .i64 (-1))).setCell ⟨K.C, i * 11 + 9, none⟩ (.int .i64 0)) K.C (i * 11) (beginC (S.cl i) key wr v) (K.cv i) := by
      refine ⟨?_, ?_, ?_, ?_, ?_, ?_, ?_, ⟨?_, ?_, ?_⟩, ?_⟩
      · rw [World.cell?_setCell_other _ _ _ _ (offNe (by omega)), World.cell?_setCell_other _ _ _ _ (offNe (by omega)), World.cell?_setCell_other _ _ _ _ (offNe (by omega)), World.cell?_setCell_other _ _ _ _ (offNe (by omega)), World.cell?_setCell_other _ _ _ _ (offNe (by omega)), World.cell?_setCell_other _ _ _ _ (offNe (by omega)), World.cell?_setCell_other _ _ _ _ (offNe (by omega))]
        exact World.cell?_setCell_same' _ _ _ (by rw [hx.busy]; rfl)
      · rw [World.cell?_setCell_other _ _ _ _ (offNe (by omega)), World.cell?_setCell_other _ _ _ _ (offNe (by omega)), World.cell?_setCell_other _ _ _ _ (offNe (by omega)), World.cell?_setCell_other _ _ _ _ (offNe (by omega)), World.cell?_setCell_other _ _ _ _ (offNe (by omega)), World.cell?_setCell_other _ _ _ _ (offNe (by omega)), World.cell?_setCell_other _ _ _ _ (offNe (by omega)), World.cell?_setCell_other _ _ _ _ (offNe (by omega))]
        exact hx.gone
      · rw [World.cell?_setCell_other _ _ _ _ (offNe (by omega)), World.cell?_setCell_other _ _ _ _ (offNe (by omega)), World.cell?_setCell_other _ _ _ _ (offNe (by omega)), World.cell?_setCell_other _ _ _ _ (offNe (by omega)), World.cell?_setCell_other _ _ _ _ (offNe (by omega)), World.cell?_setCell_other _ _ _ _ (offNe (by omega))]
        exact World.cell?_setCell_same' _ _ _ (by rw [World.cell?_setCell_other _ _ _ _ (offNe (by omega)), hx.write]; rfl)
      · rw [World.cell?_setCell_other _ _ _ _ (offNe (by omega)), World.cell?_setCell_other _ _ _ _ (offNe (by omega)), World.cell?_setCell_other _ _ _ _ (offNe (by omega)), World.cell?_setCell_other _ _ _ _ (offNe (by omega)), World.cell?_setCell_other _ _ _ _ (offNe (by omega))]
        exact World.cell?_setCell_same' _ _ _ (by rw [World.cell?_setCell_other _ _ _ _ (offNe (by omega)), World.cell?_setCell_other _ _ _ _ (offNe (by omega)), hx.tells]; rfl)
      · rw [World.cell?_setCell_other _ _ _ _ (offNe (by omega)), World.cell?_setCell_other _ _ _ _ (offNe (by omega)), World.cell?_setCell_other _ _ _ _ (offNe (by omega)), World.cell?_setCell_other _ _ _ _ (offNe (by omega))]
        exact World.cell?_setCell_same' _ _ _ (by rw [World.cell?_setCell_other _ _ _ _ (offNe (by omega)), World.cell?_setCell_other _ _ _ _ (offNe (by omega)), World.cell?_setCell_other _ _ _ _ (offNe (by omega)), hx.key]; rfl)
      · rw [World.cell?_setCell_other _ _ _ _ (offNe (by omega)), World.cell?_setCell_other _ _ _ _ (offNe (by omega)), World.cell?_setCell_other _ _ _ _ (offNe (by omega))]
        exact World.cell?_setCell_same' _ _ _ (by rw [World.cell?_setCell_other _ _ _ _ (offNe (by omega)), World.cell?_setCell_other _ _ _ _ (offNe (by omega)), World.cell?_setCell_other _ _ _ _ (offNe (by omega)), World.cell?_setCell_other _ _ _ _ (offNe (by omega)), hx.value]; rfl)
      · rw [World.cell?_setCell_other _ _ _ _ (offNe (by omega)), World.cell?_setCell_other _ _ _ _ (offNe (by omega)), World.cell?_setCell_other _ _ _ _ (offNe (by omega)), World.cell?_setCell_other _ _ _ _ (offNe (by omega)), World.cell?_setCell_other _ _ _ _ (offNe (by omega)), World.cell?_setCell_other _ _ _ _ (offNe (by omega)), World.cell?_setCell_other _ _ _ _ (offNe (by omega)), World.cell?_setCell_other _ _ _ _ (offNe (by omega))]
        exact hx.rd
      · rw [World.cell?_setCell_other _ _ _ _ (offNe (by omega)), World.cell?_setCell_other _ _ _ _ (offNe (by omega))]
        exact World.cell?_setCell_same' _ _ _ (by rw [World.cell?_setCell_other _ _ _ _ (offNe (by omega)), World.cell?_setCell_other _ _ _ _ (offNe (by omega)), World.cell?_setCell_other _ _ _ _ (offNe (by omega)), World.cell?_setCell_other _ _ _ _ (offNe (by omega)), World.cell?_setCell_other _ _ _ _ (offNe (by omega)), hx.kept.1]; rfl)
      · rw [World.cell?_setCell_other _ _ _ _ (offNe (by omega))]
        exact World.cell?_setCell_same' _ _ _ (by rw [World.cell?_setCell_other _ _ _ _ (offNe (by omega)), World.cell?_setCell_other _ _ _ _ (offNe (by omega)), World.cell?_setCell_other _ _ _ _ (offNe (by omega)), World.cell?_setCell_other _ _ _ _ (offNe (by omega)), World.cell?_setCell_other _ _ _ _ (offNe (by omega)), World.cell?_setCell_other _ _ _ _ (offNe (by omega)), hx.kept.2.1]; rfl)
      · exact World.cell?_setCell_same' _ _ _ (by rw [World.cell?_setCell_other _ _ _ _ (offNe (by omega)), World.cell?_setCell_other _ _ _ _ (offNe (by omega)), World.cell?_setCell_other _ _ _ _ (offNe (by omega)), World.cell?_setCell_other _ _ _ _ (offNe (by omega)), World.cell?_setCell_other _ _ _ _ (offNe (by omega)), World.cell?_setCell_other _ _ _ _ (offNe (by omega)), World.cell?_setCell_other _ _ _ _ (offNe (by omega)), hx.kept.2.2]; rfl)
      · rw [World.cell?_setCell_other _ _ _ _ (offNe (by omega)), World.cell?_setCell_other _ _ _ _ (offNe (by omega)), World.cell?_setCell_other _ _ _ _ (offNe (by omega)), World.cell?_setCell_other _ _ _ _ (offNe (by omega)), World.cell?_setCell_other _ _ _ _ (offNe (by omega)), World.cell?_setCell_other _ _ _ _ (offNe (by omega)), World.cell?_setCell_other _ _ _ _ (offNe (by omega)), World.cell?_setCell_other _ _ _ _ (offNe (by omega))]
        exact hx.cv
    obtain ⟨hP2, hF2⟩ := hV1.setC hik hO hC (.inl ⟨rfl, rfl⟩)
    rw [updP_self] at hP2 hF2
    have hs2 := seeD_any hP2 (by show S.seen.length ≤ 1000; omega) (i := i) hik 1 0 zeroS
    refine hs2.mono fun en W' ⟨e1, K3, ⟨hP3, hraw⟩, hF3⟩ => ⟨e1, ?_⟩
    have e2 : updC S.cl (i : Int) (beginC (S.cl i) key wr v) (i : Int) = beginC (S.cl i) key wr v := updC_same _ _ _
    replace hP3 : DoR w0 W' K3 { S with cl := updC S.cl i (beginC (S.cl i) key wr v), seen := S.seen ++ [snOf i (updC S.cl (i : Int) (beginC (S.cl i) key wr v) (i : Int)) 1 0 zeroS] } := hP3
    rw [e2] at hP3
    have hpl3 : DoPl K3 { S with cl := updC S.cl i (beginC (S.cl i) key wr v), seen := S.seen ++ [snOf i (beginC (S.cl i) key wr v) 1 0 zeroS] } := hp.raw hraw ⟨rfl, rfl, rfl⟩
    have hlt3 : K3.lt.length ≤ 40000 := by rw [hraw.2.1]; exact hlt
    have hr3 := roundD_any hP3 hpl3 hn7 hk8 (i := i) hik (by show 0 ≤ (updC S.cl (i : Int) (beginC (S.cl i) key wr v) (i : Int)).rd ∧ (updC S.cl (i : Int) (beginC (S.cl i) key wr v) (i : Int)).rd ≤ 100000; rw [e2]; exact hrd i hik) h5 hlt3
    have e3 : K3.B = K.B := hF3.fix.1.trans hF2.fix.1
    rw [e3] at hr3
    refine hr3.mono fun en2 W'' ⟨e4, K4, hP4, hpl4, hl4, hF4⟩ => ⟨e4, K4, ?_, ?_, by rw [hraw.2.1] at hl4; exact hl4, (DFr.below hV).trans (hF2.trans (hF3.trans hF4))⟩
    · rw [← round_begin]
      have := hP4
      rw [show ({ S with cl := updC S.cl i (beginC (S.cl i) key wr v), seen := S.seen ++ [snOf i (beginC (S.cl i) key wr v) 1 0 zeroS] } : Sto).cl (i : Int) = beginC (S.cl i) key wr v from e2] at this
      exact this
    · rw [← round_begin]
      have := hpl4
      rw [show ({ S with cl := updC S.cl i (beginC (S.cl i) key wr v), seen := S.seen ++ [snOf i (beginC (S.cl i) key wr v) 1 0 zeroS] } : Sto).cl (i : Int) = beginC (S.cl i) key wr v from e2] at this
      exact this
  generalize beginS S (i : Int) key wr v = Sb at HGo ⊢
  clear h hp HP HPl HE k0 k7 hb1 kn kw hf a1 a2 HKp
  refine HSp.out (fun d2 => ?_) (fun d2 ew => ?_)
  · clear HSp
    go_enter Tryz.func32, Tryz.ntmps32
    go_wp2_with fail
    refine HSm.out.mono ?_
    rintro e W2 ⟨rfl, rfl⟩
    go_wp2_with fail
    refine HFr.out.mono ?_
    rintro e W3 ⟨rfl, hb3⟩
    obtain ⟨⟨c10, hx, hfz⟩, hsee⟩ := HGo.out W3 (belJ HB1.out hb3)
    have HSe := hideIt hsee
    have y0 := hx.busy
    have y2 := hx.write
    have y3 := hx.tells
    have y4 := hx.key
    have y5 := hx.value
    have y7 := hx.kept.1
    have y8 : W3.cell? ⟨K.C, i * 11 + 8, none⟩ = _ := hx.kept.2.1
    have y9 : W3.cell? ⟨K.C, i * 11 + 9, none⟩ = _ := hx.kept.2.2
    have f0 := hfz (i * 11)
    have f2 := hfz (i * 11 + 2)
    have f3 := hfz (i * 11 + 3)
    have f4 := hfz (i * 11 + 4)
    have f5 := hfz (i * 11 + 5)
    have f7 := hfz (i * 11 + 7)
    have f8 := hfz (i * 11 + 8)
    have f9 := hfz (i * 11 + 9)
    clear hsee hb3 HGo hx hfz HFr HSm
    go_wp2_with fail
    refine HSe.out.mono ?_
    rintro e W5 ⟨rfl, hrnd⟩
    have HRn := hideIt hrnd
    clear hrnd HSe y0 y2 y3 y4 y5 y7 y8 y9 f0 f2 f3 f4 f5 f7 f8 f9 c10
    go_wp2_with fail
    refine HRn.out.mono ?_
    rintro e W6 ⟨rfl, hT⟩
    have HT := hideIt hT
    clear hT HRn
    go_wp2
    go_ret
    exact ⟨rfl, HT.out⟩
  · subst ew
    clear HSp
    go_enter Tryz.func32, Tryz.ntmps32
    go_wp2_with fail
    refine HSm.out.mono ?_
    rintro e W2 ⟨rfl, rfl⟩
    go_wp2_with fail
    refine HFr.out.mono ?_
    rintro e W3 ⟨rfl, hb3⟩
    obtain ⟨⟨c10, hx, hfz⟩, hsee⟩ := HGo.out W3 (belJ HB1.out hb3)
    have HSe := hideIt hsee
    have y0 := hx.busy
    have y2 := hx.write
    have y3 := hx.tells
    have y4 := hx.key
    have y5 := hx.value
    have y7 := hx.kept.1
    have y8 : W3.cell? ⟨K.C, i * 11 + 8, none⟩ = _ := hx.kept.2.1
    have y9 : W3.cell? ⟨K.C, i * 11 + 9, none⟩ = _ := hx.kept.2.2
    have f0 := hfz (i * 11)
    have f2 := hfz (i * 11 + 2)
    have f3 := hfz (i * 11 + 3)
    have f4 := hfz (i * 11 + 4)
    have f5 := hfz (i * 11 + 5)
    have f7 := hfz (i * 11 + 7)
    have f8 := hfz (i * 11 + 8)
    have f9 := hfz (i * 11 + 9)
    clear hsee hb3 HGo hx hfz HFr HSm
    go_wp2_with fail
    refine HSe.out.mono ?_
    rintro e W5 ⟨rfl, hrnd⟩
    have HRn := hideIt hrnd
    clear hrnd HSe y0 y2 y3 y4 y5 y7 y8 y9 f0 f2 f3 f4 f5 f7 f8 f9 c10
    go_wp2_with fail
    refine HRn.out.mono ?_
    rintro e W6 ⟨rfl, hT⟩
    have HT := hideIt hT
    clear hT HRn
    go_wp2
    go_ret
    exact ⟨rfl, HT.out⟩
end
end Go.Proofs.YtncnojgemmcplaaGreatDoor.St.Dc
