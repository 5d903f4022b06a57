/-
  The statement NetKeeps, walked.
-/
import Derived.Test.YtlkddeaceagonaaKeM
namespace Go.Proofs.Ytlkddeaceagonaa
open Go.RowKit

/-- The first mails that are sent. -/
def sentL (i : Nat) : List Mq := (List.range i).map fun (j : Nat) => ⟨(j : Int) % 3, (j : Int) % 5, (j : Int)⟩
theorem sentL_len (i : Nat) : (sentL i).length = i := by simp [sentL]
theorem sentL_succ (i : Nat) : sentL (i + 1) = sentL i ++ [⟨(i : Int) % 3, (i : Int) % 5, (i : Int)⟩] := by unfold sentL; rw [List.range_succ, List.map_append]; rfl
def wants (L : List Mq) : List Int := L.map (·.wh)
theorem wants_len (L : List Mq) : (wants L).length = L.length := by simp [wants]
theorem wants_erase (L : List Mq) (k : Nat) : wants (L.eraseIdx k) = (wants L).eraseIdx k := by
  unfold wants
  rw [List.eraseIdx_eq_take_drop_succ, List.eraseIdx_eq_take_drop_succ, List.map_append, List.map_take, List.map_drop]
theorem wants_at {L : List Mq} {k : Nat} {m : Mq} (h : L[k]? = some m) (hk : k < (wants L).length) : (wants L)[k] = m.wh := by
  have hk' : k < L.length := by rwa [wants_len] at hk
  rw [List.getElem?_eq_getElem hk'] at h
  simp only [wants, List.getElem_map]
  rw [Option.some.inj h]

/-- The net and what is wanted. -/
structure KeepI (w W : World) (L : List Mq) (v : Value) : Prop where
  bel : Below w.heap.size w W
  net : NetP W w.heap.size w.heap.size 0 (.slice none 0 0) v L
  tag : tagD W.heap[w.heap.size]? = 35 + 1
theorem KeepI.vtag {w W : World} {L : List Mq} {v : Value} (h : KeepI w W L v) : ∀ b, v.ownBlock = some b → tagD W.heap[b]? = 38 + 1 := fun _ hb => own_tagD h.net.row hb
theorem KeepI.below {w W W' : World} {L : List Mq} {v : Value} (h : KeepI w W L v) (hb : Below W.heap.size W W') : KeepI w W' L v :=
  ⟨belJ h.bel hb, h.net.below hb, by rw [hb.block _ h.net.lt]; exact h.tag⟩
theorem tagD_setCell {W : World} {B o : Nat} {v : Value} {t : TypeId} (h : tagD W.heap[B]? = t + 1) : tagD (W.setCell ⟨B, o, none⟩ v).heap[B]? = t + 1 := by
  cases e : W.heap[B]? with
  | none => rw [e] at h; cases h
  | some x =>
    rw [e] at h
    cases x with
    | cells cur t' fr =>
      obtain ⟨cur', h', _⟩ := heap_setCell e o v
      rw [h']; exact h
    | _ => cases h
theorem KeepI.told {w W W' : World} {L L' : List Mq} {v v' : Value} (h : KeepI w W L v) (ht : MailT w.heap.size w.heap.size 0 v L' W W' v') : KeepI w W' L' v' := by
  refine ⟨ht.below h.bel (Nat.le_refl _) (fun b hb => (ownsRow_block h.net.row b hb).1) h.bel.size, h.net.told ht, ?_⟩
  rw [ht.blk]
  exact tagD_setCell h.tag
theorem KeepI.ints {w W W' : World} {L L' : List Mq} {v v' : Value} (h : KeepI w W L v) (ht : MailT w.heap.size w.heap.size 0 v L' W W' v') {a : Option Addr} {l : List Int} (hi : IntsT W a l) : IntsT W' a l :=
  hi.keep fun b hb => ht.rest b (tag_lt hb) (fun e => by rw [e, h.tag] at hb; cases hb) (fun e => by rw [h.vtag b e] at hb; cases hb)
theorem keep_new (w : World) : KeepI w (w.alloc (.cells #[.slice none 0 0, .slice none 0 0] 35)) [] (.slice none 0 0) := by
  have hb := heap_alloc_new w (.cells #[.slice none 0 0, .slice none 0 0] 35)
  refine ⟨belA (Below.refl _ _) _, ⟨by rw [cell_of_row _ _ _ _ 35 _ hb]; rfl, by rw [cell_of_row _ _ _ _ 35 _ hb]; rfl, frozen_of_row _ _ _ _ 35 hb, ⟨rfl, .inl ⟨rfl, rfl⟩⟩, by simp, by simp [Value.ownBlock]⟩, by rw [hb]; rfl⟩

set_option maxRecDepth 100000 in
set_option maxHeartbeats 8000000 in
theorem keeps_walk (gone : List Int) (a : Option Addr) (cap : Nat) (w : World) (hq : IntsQ w a gone) :
    Calls Try.prog 4 #[.slice a gone.length cap] w fun e w' => e = .returned (.bool true) ∧ Below w.heap.size w w' := by
  have HQ := hideIt hq
  clear hq
  by_cases h60 : 60 < gone.length
  · have h60' : decide ((gone.length : Int) > 60) = true := decide_eq_true (by omega)
    have h60'' : (60 : Int) < (gone.length : Int) := by omega
    go_enter Try.func4, Try.ntmps4
    go_wp2
    go_ret
    exact ⟨rfl, Below.refl _ _⟩
  have h60' : decide ((gone.length : Int) > 60) = false := decide_eq_false (by omega)
  have h60'' : ¬ (60 : Int) < (gone.length : Int) := by omega
  have HK0 := hideIt (keep_new w)
  have HQ0 : Hid (∀ Z, Below w.heap.size w Z → IntsQ Z a gone) := fun Z hZ => HQ.out.below hZ
  clear HQ
  go_enter Try.func4, Try.ntmps4
  go_wp2
  generalize w.alloc _ = W0 at *
  go_loopw [5, 4] (fun iv wv wr => ∃ (i : Nat) (v : Value), i ≤ 40 ∧ iv = .int .i64 i ∧ KeepI w wr (sentL i) v ∧ wr.ownsRow w.heap.size 3 1 wv (wants (sentL i)).length (intC (wants (sentL i)))) (fun iv _ _ => 40 - (intOf iv).toNat)
  case atStart => exact ⟨0, _, by omega, rfl, HK0.out, ⟨rfl, .inl ⟨rfl, rfl⟩⟩⟩
  case round =>
    clear HK0 W0
    obtain ⟨i, v, hi, rfl, hk, ho⟩ := hrel
    have HK := hideIt hk
    have HO := hideIt ho
    obtain ⟨wa, wc, rfl, hwc, hwi⟩ := ints_of_own ho
    have HWI := hideIt hwi
    clear hk ho hwi
    by_cases hi40 : i < 40
    · have hi' : (i : Int) < 40 := by omega
      have HS := hideIt (psend_any ⟨(i : Int) % 3, (i : Int) % 5, (i : Int)⟩ _ _ _ _ _ _ wr HK.out.net)
      have HSn := hideIt (sentL_succ i)
      have hsl := sentL_len i
      have hwl := wants_len (sentL i)
      have HSl := hideIt (hwl.trans hsl)
      have HWn : Hid (wants (sentL (i + 1)) = wants (sentL i) ++ [(i : Int)]) := by show _ = _; rw [HSn.out]; simp [wants]
      clear hwl
      go_wp2_with fail
      refine HS.out.mono ?_
      clear HS
      rintro e W1 (⟨hbad, _⟩ | ⟨_, rfl, v1, ht⟩)
      · omega
      have HK1 := hideIt (HK.out.told ht)
      have ho1 : W1.ownsRow w.heap.size 3 1 (.slice wa (wants (sentL i)).length wc) (wants (sentL i)).length (intC (wants (sentL i))) := by
        exact ownsRow_same HO.out fun b hb => ht.rest b (ownsRow_block HO.out b hb).2.1 (fun e => by
          have h1 := own_tagD HO.out hb
          rw [e, HK.out.tag] at h1; cases h1) (fun e => by
          have h1 := own_tagD HO.out hb
          rw [HK.out.vtag b e] at h1; cases h1)
      have ho2 := ownsRow_same (w' := W1.alloc (.cells #[.int .i64 (i : Int)] 3)) ho1 fun b hb => Below.heap_alloc W1 _ b (ownsRow_block ho1 b hb).2.1
      have hbl : w.heap.size ≤ (W1.alloc (.cells #[.int .i64 (i : Int)] 3)).heap.size := by have := HK1.out.bel.size; simp; omega
      obtain ⟨v', w6, hr, ho6, hg6, hob⟩ := run_appI (x := (i : Int)) (B := W1.heap.size) ho2 (cell_of_row _ _ _ _ 3 _ (heap_alloc_new W1 _)) hbl (by rw [HSl.out]; omega) 32
      rw [← HWn.out] at ho6
      have HKa := hideIt (HK1.out.below (belA (Below.refl _ _) (.cells #[.int .i64 (i : Int)] 3)))
      have HK6 : Hid (KeepI w w6 (sentL (i + 1)) v1) := by
        rw [HSn.out]
        have hne1 : some w.heap.size ≠ (Value.slice wa (wants (sentL i)).length wc).ownBlock := fun e => by
          have h1 := own_tagD ho2 e.symm
          rw [HKa.out.tag] at h1; cases h1
        refine ⟨HKa.out.bel.grown hg6 HKa.out.bel.size fun b hb => (ownsRow_block ho2 b hb).1, HKa.out.net.keep (hg6.block _ HKa.out.net.lt hne1) (fun b hb => hg6.block b (ownsRow_block HKa.out.net.row b hb).2.1 fun e => ?_) hg6.size, by rw [hg6.block _ HKa.out.net.lt hne1]; exact HKa.out.tag⟩
        have h1 := own_tagD ho2 e.symm
        rw [HKa.out.vtag b hb] at h1; cases h1
      obtain ⟨a6, cap6, rfl⟩ := ownsRow_slice ho6
      have HO6 := hideIt ho6
      clear ho1 ho2 hbl ho6 hg6 hob ht HKa HK1 HK HO HWI HWn HSn
      go_wp2_with (at_builtin; refine wpList_append_run _ rfl _ _ 32 rfl _ _ _ w6 rfl rfl hr ?_)
      go_roundw
      case rel => exact ⟨i + 1, v1, by omega, by go_num, HK6.out, HO6.out⟩
      case measure => simp [intOf]; omega
    · have hl0 : (wants (sentL i)).length ≤ 40 := by rw [wants_len, sentL_len]; omega
      have hi' : ¬ (i : Int) < 40 := by omega
      generalize sentL i = L0 at *
      clear HO
      go_wp2
      go_loopw [6, 4] (fun iv wv wr => ∃ (i : Nat) (L : List Mq) (v : Value) (wa : Option Addr) (wc : Nat), i ≤ gone.length ∧ iv = .int .i64 i ∧ KeepI w wr L v ∧ wv = .slice wa (wants L).length wc ∧ IntsT wr wa (wants L) ∧ (wants L).length ≤ wc ∧ (wants L).length ≤ 40) (fun iv _ _ => gone.length - (intOf iv).toNat)
      case atStart => exact ⟨0, L0, v, wa, wc, Nat.zero_le _, rfl, HK.out, rfl, HWI.out, hwc, hl0⟩
      case round =>
        clear HK HWI hwc hl0 hi hi' hi40
        obtain ⟨i, L, v, wa, wc, hi, rfl, hk, rfl, hwi, hwc, hwl⟩ := hrel
        have HK := hideIt hk
        have HWI := hideIt hwi
        have HWL := hideIt (wants_len L)
        clear hk hwi
        by_cases hend : i < gone.length ∧ 0 < (wants L).length
        · obtain ⟨hig, hpos⟩ := hend
          have g1 : decide ((i : Int) < (gone.length : Int)) = true := decide_eq_true (by omega)
          have g2 : decide (((wants L).length : Int) > 0) = true := decide_eq_true (by omega)
          have g3 : (i : Int) < (gone.length : Int) := by omega
          have g4 : (0 : Int) < ((wants L).length : Int) := by omega
          obtain ⟨gg, goff, rfl, _, hgc⟩ := (HQ0.out wr HK.out.bel).at hig
          obtain ⟨wg, woff, rfl, _⟩ := HWI.out.at hpos
          have HPk := hideIt (pick_any gone[i] (wants L).length wr hpos (by omega))
          have HNx : Hid (∀ Z, Below w.heap.size w Z → Z.cell? ⟨gg, goff + i, none⟩ = some (.int .i64 gone[i])) := fun Z hZ => by
            obtain ⟨g', o', e', _, h'⟩ := (HQ0.out Z hZ).at hig
            cases e'
            exact h'
          generalize gone[i] = x at *
          go_wp2_with fail
          refine HPk.out.mono ?_
          clear HPk
          rintro e w1 ⟨k, hk, rfl, rfl⟩
          have hkL : k < L.length := by have := HWL.out; omega
          have hki : (k : Int) < ((wants L).length : Int) := by omega
          obtain ⟨m, hm⟩ : ∃ m, L[k]? = some m := ⟨_, List.getElem?_eq_getElem hkL⟩
          have HMm := hideIt hm
          have HWk := hideIt (wants_at hm hk)
          have HEr := hideIt (wants_erase L k)
          have HLe : Hid ((L.eraseIdx k).length = L.length - 1) := List.length_eraseIdx_of_lt hkL
          clear hm
          have hx2 := HNx.out w1 HK.out.bel
          have HCut : Hid (∀ Z, IntsT Z (some ⟨wg, woff, none⟩) (wants L) → ∀ ty, ∃ a' cap' w', (Builtin.append_ #[32, 32] ty #[.slice (some ⟨wg, woff, none⟩) k k, .slice (some (endI wg woff wc (k + 1))) ((wants L).length - (k + 1)) (wc - (k + 1))]).run Try.prog Z = .ok (.slice a' ((wants L).length - 1) cap') w' ∧ IntsT w' a' (wants (L.eraseIdx k)) ∧ (wants L).length - 1 ≤ cap' ∧ Below Z.heap.size Z w') := fun Z hZ ty => by
            rw [HEr.out]
            exact run_cutI hZ hk hwc (by omega) ty
          have HW1 : Hid ((wants L).length - 1 = (wants (L.eraseIdx k)).length) := by show _ = _; rw [wants_len, wants_len, HLe.out]
          have q1 : (k : Int) + 1 ≤ ((wants L).length : Int) := by omega
          have q2 : ((wants L).length : Int) ≤ (wc : Int) := by omega
          have q3 : (0 : Int) ≤ (k : Int) + 1 := by omega
          have q5 : (k : Int) ≤ (wc : Int) := by omega
          have q7 : (k : Int) + 1 ≤ (wc : Int) := by omega
          have q8 : ((k : Int) + 1).toNat = k + 1 := by omega
          have q9 : IntKind.i64.wrap ((k : Int) + 1) = (k : Int) + 1 := IntWalk.i64_in _ (by omega)
          have HTail : Hid (∀ Z v', KeepI w Z (L.eraseIdx k) v' → IntsT Z (some ⟨wg, woff, none⟩) (wants L) → True) := fun _ _ _ _ => trivial
          clear HTail
          cases hpar : (x.tmod 2 == 0) with
          | true =>
            have HDr := hideIt (pdrop_any (k : Int) _ _ _ _ _ L (by have := HWL.out; omega) w1 HK.out.net)
            go_wp2_with fail
            refine HDr.out.mono ?_
            clear HDr
            rintro e W4 (⟨hbad, _⟩ | ⟨k', m', hkk, hm', rfl, v', ht⟩)
            · omega
            obtain rfl : k = k' := by omega
            have HK4 := hideIt (HK.out.told ht)
            have HWI4 := hideIt (HK.out.ints ht HWI.out)
            clear ht hm' hkk
            go_wp2_with fail
            refine wp_region_L (B := [8]) (S := fun _ => True) (T := fun _ => True) (by kernel_rfl) ⟨trivial, trivial⟩ (fun hHeld => ?_)
            refine wpAnyL_takeS (i := 0) (v := ?_) rfl (by kernel_rfl) (by kernel_rfl) (by kernel_rfl) (by kernel_rfl) (fun _ _ _ h => h) (Or.inl ⟨by rfl, ?_⟩) (by assumption) ?_
            rotate_left 1
            · intro wz _
              go_simp
              all_goals with_reducible rfl
            simp only [Act.put, List.setIfInBounds_toArray, List.set_cons_zero, List.set_cons_succ, List.getElem_toArray, List.getElem_cons_zero]
            refine wpAnyL_takeS (i := 1) (v := ?_) rfl (by kernel_rfl) (by kernel_rfl) (by kernel_rfl) (by kernel_rfl) (fun _ _ _ h => h) (Or.inl ⟨by rfl, ?_⟩) (by assumption) ?_
            rotate_left 1
            · intro wz _
              go_simp
              all_goals with_reducible rfl
            simp only [Act.put, List.setIfInBounds_toArray, List.set_cons_zero, List.set_cons_succ, List.getElem_toArray, List.getElem_cons_zero, List.getElem_cons_succ]
            refine wpAnyL_takeS (i := 2) (v := ?_) rfl (by kernel_rfl) (by kernel_rfl) (by kernel_rfl) (by kernel_rfl) (fun _ _ _ h => h) (Or.inl ⟨by rfl, ?_⟩) (by assumption) ?_
            rotate_left 1
            · intro wz _
              go_simp
              all_goals with_reducible rfl
            simp only [Act.put, List.setIfInBounds_toArray, List.set_cons_zero, List.set_cons_succ, List.getElem_toArray, List.getElem_cons_zero, List.getElem_cons_succ]
            refine wpAnyL_takeS (i := 3) (v := ?_) rfl (by kernel_rfl) (by kernel_rfl) (by kernel_rfl) (by kernel_rfl) (fun _ _ _ h => h) (Or.inl ⟨by rfl, ?_⟩) (by assumption) ?_
            rotate_left 1
            · intro wz _
              go_simp
              all_goals with_reducible rfl
            simp only [Act.put, List.setIfInBounds_toArray, List.set_cons_zero, List.set_cons_succ, List.getElem_toArray, List.getElem_cons_zero, List.getElem_cons_succ]
            refine wpAnyL_takeS (i := 4) (v := ?_) rfl (by kernel_rfl) (by kernel_rfl) (by kernel_rfl) (by kernel_rfl) (fun _ _ _ h => h) (Or.inl ⟨by rfl, ?_⟩) (by assumption) ?_
            rotate_left 1
            · intro wz _
              go_simp
              all_goals with_reducible rfl
            simp only [Act.put, List.setIfInBounds_toArray, List.set_cons_zero, List.set_cons_succ, List.getElem_toArray, List.getElem_cons_zero, List.getElem_cons_succ]
            refine wpAnyL_takeS (i := 5) (v := ?_) rfl (by kernel_rfl) (by kernel_rfl) (by kernel_rfl) (by kernel_rfl) (fun _ _ _ h => h) (Or.inl ⟨by rfl, ?_⟩) (by assumption) ?_
            rotate_left 1
            · intro wz _
              go_simp
              all_goals with_reducible rfl
            simp only [Act.put, List.setIfInBounds_toArray, List.set_cons_zero, List.set_cons_succ, List.getElem_toArray, List.getElem_cons_zero, List.getElem_cons_succ]
            refine wpAnyL_takeS (i := 6) (v := ?_) rfl (by kernel_rfl) (by kernel_rfl) (by kernel_rfl) (by kernel_rfl) (fun _ _ _ h => h) (Or.inl ⟨by rfl, ?_⟩) (by assumption) ?_
            rotate_left 1
            · intro wz _
              go_simp
              all_goals with_reducible rfl
            simp only [Act.put, List.setIfInBounds_toArray, List.set_cons_zero, List.set_cons_succ, List.getElem_toArray, List.getElem_cons_zero, List.getElem_cons_succ]
            refine wpAnyL_takeS (i := 7) (v := ?_) rfl (by kernel_rfl) (by kernel_rfl) (by kernel_rfl) (by kernel_rfl) (fun _ _ _ h => h) (Or.inl ⟨by rfl, ?_⟩) (by assumption) ?_
            rotate_left 1
            · intro wz _
              go_simp
              all_goals with_reducible rfl
            simp only [Act.put, List.setIfInBounds_toArray, List.set_cons_zero, List.set_cons_succ, List.getElem_toArray, List.getElem_cons_zero, List.getElem_cons_succ]
            have hif : (if wc = k + 1 then some (⟨wg, woff, none⟩ : Addr) else some ⟨wg, woff + (k + 1), none⟩) = some (endI wg woff wc (k + 1)) := by unfold endI; split <;> rfl
            rw [hif]
            have HWd := hideIt (HWI4.out.below ((Below.refl _ _).drew))
            have HKd := hideIt (HK4.out.below ((Below.refl _ _).drew))
            obtain ⟨a', cap', W5, hrun, hI5, hcc, hb5⟩ := HCut.out _ HWd.out 32
            have HI5 := hideIt hI5
            have HK5 := hideIt (HKd.out.below hb5)
            clear hI5 hb5
            refine wpAnyL_ready (rs := [8]) (by kernel_rfl) (by simp) (AllReadyL.last rfl (by kernel_rfl) (fun K hK => ?_) AllReadyL.nil)
            refine step_append_run (by rfl) _ _ 32 rfl _ _ _ W5 rfl rfl hrun ?_
            simp only [Act.put, List.setIfInBounds_toArray]
            refine hK.out _ _ trivial (fun _ => ?_)
            clear hK K hHeld hif hrun HWd HKd
            refine wpAnyL_takeE (i := 9) (v := ?_) rfl (by kernel_rfl) (by kernel_rfl) (by kernel_rfl) (by kernel_rfl) (by kernel_rfl) (fun _ _ _ h => h) (Or.inl ⟨by rfl, ?_⟩) (by assumption) ?_
            rotate_left 1
            · intro wz _
              go_simp
              all_goals with_reducible rfl
            simp only [Act.put, List.setIfInBounds_toArray, List.set_cons_zero, List.set_cons_succ, List.getElem_toArray, List.getElem_cons_zero, List.getElem_cons_succ]
            refine wpAnyL_done (by kernel_rfl) ?_ _
            go_wp2
            go_roundw
            case rel => exact ⟨i + 1, L.eraseIdx k, v', a', cap', by omega, by go_num, HK5.out, by rw [HW1.out], HI5.out, by rw [← HW1.out]; exact hcc, by rw [← HW1.out]; omega⟩
            case measure => simp [intOf]; omega
          | false =>
            have HTk := hideIt (ptake_any (k : Int) _ _ _ _ _ L (by have := HWL.out; omega) (fun _ => True) true [] w1 HK.out.net (.inl ⟨rfl, rfl⟩))
            go_wp2_with fail
            refine HTk.out.mono ?_
            clear HTk
            rintro e W3 (⟨hbad, _⟩ | ⟨k', m', hkk, hm', hbad, _⟩ | ⟨k', m', hkk, hm', _, rfl, v', ht⟩)
            · omega
            · cases hbad
            obtain rfl : k = k' := by omega
            obtain rfl : m = m' := Option.some.inj (HMm.out.symm.trans hm')
            have HK3 := hideIt (HK.out.told ht)
            have HWI3 := hideIt (HK.out.ints ht HWI.out)
            clear ht hm' hkk
            unfold mqV
            have HBa : Hid (Below W3.heap.size W3 (W3.alloc (.cells #[.int .i64 m.fr, .int .i64 m.tt, .int .i64 m.wh] 38))) := belA (Below.refl _ _) _
            have hz0 := blkMq (m := m) (heap_alloc_new W3 (.cells #[.int .i64 m.fr, .int .i64 m.tt, .int .i64 m.wh] 38))
            have HZ0 := hideIt hz0
            clear hz0
            have HK3a := hideIt (HK3.out.below HBa.out)
            have HWI3a := hideIt (HWI3.out.below HBa.out)
            go_upto_region 19 with fail
            generalize W3.alloc (.cells #[.int .i64 m.fr, .int .i64 m.tt, .int .i64 m.wh] 38) = V3 at *
            obtain ⟨z0, z1, z2⟩ := HZ0.out
            obtain ⟨wg', woff', ew, hwk⟩ := HWI3a.out.at hk
            cases ew
            rw [HWk.out] at hwk
            have hne : (m.wh != m.wh) = false := by simp
            go_quiet (fail)
            generalize hV4 : V3.drewN _ = W4
            have HK4 : Hid (KeepI w W4 (L.eraseIdx k) v') := by rw [← hV4]; exact HK3a.out.below (below_drewN (Below.refl _ _) _)
            have HWI4 : Hid (IntsT W4 (some ⟨wg, woff, none⟩) (wants L)) := by rw [← hV4]; exact HWI3a.out.below (below_drewN (Below.refl _ _) _)
            clear hV4 HK3 HWI3 HK3a HWI3a HBa HZ0 z0 z1 z2 hwk
            go_wp2_with fail
            refine wp_region_L (B := [8]) (S := fun _ => True) (T := fun _ => True) (by kernel_rfl) ⟨trivial, trivial⟩ (fun hHeld => ?_)
            refine wpAnyL_takeS (i := 0) (v := ?_) rfl (by kernel_rfl) (by kernel_rfl) (by kernel_rfl) (by kernel_rfl) (fun _ _ _ h => h) (Or.inl ⟨by rfl, ?_⟩) (by assumption) ?_
            rotate_left 1
            · intro wz _
              go_simp
              all_goals with_reducible rfl
            simp only [Act.put, List.setIfInBounds_toArray, List.set_cons_zero, List.set_cons_succ, List.getElem_toArray, List.getElem_cons_zero]
            refine wpAnyL_takeS (i := 1) (v := ?_) rfl (by kernel_rfl) (by kernel_rfl) (by kernel_rfl) (by kernel_rfl) (fun _ _ _ h => h) (Or.inl ⟨by rfl, ?_⟩) (by assumption) ?_
            rotate_left 1
            · intro wz _
              go_simp
              all_goals with_reducible rfl
            simp only [Act.put, List.setIfInBounds_toArray, List.set_cons_zero, List.set_cons_succ, List.getElem_toArray, List.getElem_cons_zero, List.getElem_cons_succ]
            refine wpAnyL_takeS (i := 2) (v := ?_) rfl (by kernel_rfl) (by kernel_rfl) (by kernel_rfl) (by kernel_rfl) (fun _ _ _ h => h) (Or.inl ⟨by rfl, ?_⟩) (by assumption) ?_
            rotate_left 1
            · intro wz _
              go_simp
              all_goals with_reducible rfl
            simp only [Act.put, List.setIfInBounds_toArray, List.set_cons_zero, List.set_cons_succ, List.getElem_toArray, List.getElem_cons_zero, List.getElem_cons_succ]
            refine wpAnyL_takeS (i := 3) (v := ?_) rfl (by kernel_rfl) (by kernel_rfl) (by kernel_rfl) (by kernel_rfl) (fun _ _ _ h => h) (Or.inl ⟨by rfl, ?_⟩) (by assumption) ?_
            rotate_left 1
            · intro wz _
              go_simp
              all_goals with_reducible rfl
            simp only [Act.put, List.setIfInBounds_toArray, List.set_cons_zero, List.set_cons_succ, List.getElem_toArray, List.getElem_cons_zero, List.getElem_cons_succ]
            refine wpAnyL_takeS (i := 4) (v := ?_) rfl (by kernel_rfl) (by kernel_rfl) (by kernel_rfl) (by kernel_rfl) (fun _ _ _ h => h) (Or.inl ⟨by rfl, ?_⟩) (by assumption) ?_
            rotate_left 1
            · intro wz _
              go_simp
              all_goals with_reducible rfl
            simp only [Act.put, List.setIfInBounds_toArray, List.set_cons_zero, List.set_cons_succ, List.getElem_toArray, List.getElem_cons_zero, List.getElem_cons_succ]
            refine wpAnyL_takeS (i := 5) (v := ?_) rfl (by kernel_rfl) (by kernel_rfl) (by kernel_rfl) (by kernel_rfl) (fun _ _ _ h => h) (Or.inl ⟨by rfl, ?_⟩) (by assumption) ?_
            rotate_left 1
            · intro wz _
              go_simp
              all_goals with_reducible rfl
            simp only [Act.put, List.setIfInBounds_toArray, List.set_cons_zero, List.set_cons_succ, List.getElem_toArray, List.getElem_cons_zero, List.getElem_cons_succ]
            refine wpAnyL_takeS (i := 6) (v := ?_) rfl (by kernel_rfl) (by kernel_rfl) (by kernel_rfl) (by kernel_rfl) (fun _ _ _ h => h) (Or.inl ⟨by rfl, ?_⟩) (by assumption) ?_
            rotate_left 1
            · intro wz _
              go_simp
              all_goals with_reducible rfl
            simp only [Act.put, List.setIfInBounds_toArray, List.set_cons_zero, List.set_cons_succ, List.getElem_toArray, List.getElem_cons_zero, List.getElem_cons_succ]
            refine wpAnyL_takeS (i := 7) (v := ?_) rfl (by kernel_rfl) (by kernel_rfl) (by kernel_rfl) (by kernel_rfl) (fun _ _ _ h => h) (Or.inl ⟨by rfl, ?_⟩) (by assumption) ?_
            rotate_left 1
            · intro wz _
              go_simp
              all_goals with_reducible rfl
            simp only [Act.put, List.setIfInBounds_toArray, List.set_cons_zero, List.set_cons_succ, List.getElem_toArray, List.getElem_cons_zero, List.getElem_cons_succ]
            have hif : (if wc = k + 1 then some (⟨wg, woff, none⟩ : Addr) else some ⟨wg, woff + (k + 1), none⟩) = some (endI wg woff wc (k + 1)) := by unfold endI; split <;> rfl
            rw [hif]
            have HWd := hideIt (HWI4.out.below ((Below.refl _ _).drew))
            have HKd := hideIt (HK4.out.below ((Below.refl _ _).drew))
            obtain ⟨a', cap', W5, hrun, hI5, hcc, hb5⟩ := HCut.out _ HWd.out 32
            have HI5 := hideIt hI5
            have HK5 := hideIt (HKd.out.below hb5)
            clear hI5 hb5
            refine wpAnyL_ready (rs := [8]) (by kernel_rfl) (by simp) (AllReadyL.last rfl (by kernel_rfl) (fun K hK => ?_) AllReadyL.nil)
            refine step_append_run (by rfl) _ _ 32 rfl _ _ _ W5 rfl rfl hrun ?_
            simp only [Act.put, List.setIfInBounds_toArray]
            refine hK.out _ _ trivial (fun _ => ?_)
            clear hK K hHeld hif hrun HWd HKd
            refine wpAnyL_takeE (i := 9) (v := ?_) rfl (by kernel_rfl) (by kernel_rfl) (by kernel_rfl) (by kernel_rfl) (by kernel_rfl) (fun _ _ _ h => h) (Or.inl ⟨by rfl, ?_⟩) (by assumption) ?_
            rotate_left 1
            · intro wz _
              go_simp
              all_goals with_reducible rfl
            simp only [Act.put, List.setIfInBounds_toArray, List.set_cons_zero, List.set_cons_succ, List.getElem_toArray, List.getElem_cons_zero, List.getElem_cons_succ]
            refine wpAnyL_done (by kernel_rfl) ?_ _
            go_wp2
            go_roundw
            case rel => exact ⟨i + 1, L.eraseIdx k, v', a', cap', by omega, by go_num, HK5.out, by rw [HW1.out], HI5.out, by rw [← HW1.out]; exact hcc, by rw [← HW1.out]; omega⟩
            case measure => simp [intOf]; omega
        · by_cases hig : i < gone.length
          · have g1 : decide ((i : Int) < (gone.length : Int)) = true := decide_eq_true (by omega)
            have g2 : decide (((wants L).length : Int) > 0) = false := decide_eq_false (by omega)
            have g3 : (i : Int) < (gone.length : Int) := by omega
            have g4 : ¬ (0 : Int) < ((wants L).length : Int) := by omega
            clear hend
            go_wp2
            go_loopw [10] (fun iv wr => ∃ (j : Nat) (v : Value), j ≤ (wants L).length ∧ iv = .int .i64 j ∧ KeepI w wr (L.drop j) v ∧ IntsT wr wa (wants L)) (fun iv _ => (wants L).length - (intOf iv).toNat)
            case atStart => exact ⟨0, v, Nat.zero_le _, rfl, HK.out, HWI.out⟩
            case round =>
              clear HK HWI
              obtain ⟨j, v, hj, rfl, hk, hwi⟩ := hrel
              have HK := hideIt hk
              have HWI := hideIt hwi
              clear hk hwi
              by_cases hjn : j < (wants L).length
              · omega
              · have hjn' : ¬ (j : Int) < ((wants L).length : Int) := by omega
                have HDl : Hid (((L.drop j).length : Int) = 0) := by show _ = _; rw [List.length_drop]; have := HWL.out; omega
                have HWt := hideIt (pwait_any _ _ _ _ _ _ wr HK.out.net)
                go_wp2_with fail
                refine HWt.out.mono ?_
                rintro e w1 ⟨rfl, rfl⟩
                rw [HDl.out]
                go_wp2
                go_ret
                exact ⟨rfl, HK.out.bel⟩
          have g1 : decide ((i : Int) < (gone.length : Int)) = false := decide_eq_false (by omega)
          have g3 : ¬ (i : Int) < (gone.length : Int) := by omega
          clear hend
          go_wp2
          go_loopw [10] (fun iv wr => ∃ (j : Nat) (v : Value), j ≤ (wants L).length ∧ iv = .int .i64 j ∧ KeepI w wr (L.drop j) v ∧ IntsT wr wa (wants L)) (fun iv _ => (wants L).length - (intOf iv).toNat)
          case atStart => exact ⟨0, v, Nat.zero_le _, rfl, HK.out, HWI.out⟩
          case round =>
            clear HK HWI
            obtain ⟨j, v, hj, rfl, hk, hwi⟩ := hrel
            have HK := hideIt hk
            have HWI := hideIt hwi
            clear hk hwi
            by_cases hjn : j < (wants L).length
            · have hjn' : (j : Int) < ((wants L).length : Int) := by omega
              have hjL : j < L.length := by have := HWL.out; omega
              have HDl : Hid ((L.drop j).length = L.length - j) := List.length_drop
              have HD0 : Hid ((L.drop j)[0]? = L[j]?) := by show _ = _; simp
              have HDe : Hid ((L.drop j).eraseIdx 0 = L.drop (j + 1)) := by
                show _ = _
                rw [List.drop_eq_getElem_cons hjL]; rfl
              have HTk := hideIt (ptake_any 0 _ _ _ _ _ (L.drop j) (by have := HWL.out; have := HDl.out; omega) (fun _ => True) true [] wr HK.out.net (.inl ⟨rfl, rfl⟩))
              go_wp2_with fail
              refine HTk.out.mono ?_
              clear HTk
              rintro e W3 (⟨hbad, _⟩ | ⟨k', m, hkk, hm', hbad, _⟩ | ⟨k', m, hkk, hm', _, rfl, v', ht⟩)
              · have := HDl.out; omega
              · cases hbad
              obtain rfl : k' = 0 := by omega
              rw [HDe.out] at ht
              rw [HD0.out] at hm'
              have HWk := hideIt (wants_at hm' hjn)
              have HK3 := hideIt (HK.out.told ht)
              have HWI3 := hideIt (HK.out.ints ht HWI.out)
              clear ht hm' hkk
              unfold mqV
              have HBa : Hid (Below W3.heap.size W3 (W3.alloc (.cells #[.int .i64 m.fr, .int .i64 m.tt, .int .i64 m.wh] 38))) := belA (Below.refl _ _) _
              have HZ0 := hideIt (blkMq (m := m) (heap_alloc_new W3 (.cells #[.int .i64 m.fr, .int .i64 m.tt, .int .i64 m.wh] 38)))
              have HK3a := hideIt (HK3.out.below HBa.out)
              have HWI3a := hideIt (HWI3.out.below HBa.out)
              go_upto_region 26 with fail
              generalize W3.alloc (.cells #[.int .i64 m.fr, .int .i64 m.tt, .int .i64 m.wh] 38) = V3 at *
              obtain ⟨z0, z1, z2⟩ := HZ0.out
              obtain ⟨wg', woff', rfl, hwk⟩ := HWI3a.out.at hjn
              rw [HWk.out] at hwk
              have hne : (m.wh != m.wh) = false := by simp
              go_quiet (fail)
              generalize hV4 : V3.drewN _ = W4
              have HK4 : Hid (KeepI w W4 (L.drop (j + 1)) v') := by rw [← hV4]; exact HK3a.out.below (below_drewN (Below.refl _ _) _)
              have HWI4 : Hid (IntsT W4 (some ⟨wg', woff', none⟩) (wants L)) := by rw [← hV4]; exact HWI3a.out.below (below_drewN (Below.refl _ _) _)
              clear hV4 HK3 HWI3 HK3a HWI3a HBa HZ0 z0 z1 z2 hwk
              go_wp2
              go_roundw
              case rel => exact ⟨j + 1, v', by omega, by go_num, HK4.out, HWI4.out⟩
              case measure => simp [intOf]; omega
            · have hjn' : ¬ (j : Int) < ((wants L).length : Int) := by omega
              have HDl : Hid (((L.drop j).length : Int) = 0) := by show _ = _; rw [List.length_drop]; have := HWL.out; omega
              have HWt := hideIt (pwait_any _ _ _ _ _ _ wr HK.out.net)
              go_wp2_with fail
              refine HWt.out.mono ?_
              rintro e w1 ⟨rfl, rfl⟩
              rw [HDl.out]
              go_wp2
              go_ret
              exact ⟨rfl, HK.out.bel⟩
end Go.Proofs.Ytlkddeaceagonaa
