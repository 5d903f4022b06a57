/-
  The document's store, walked: send.
  The document's store, walked: round.
-/
import Derived.Test.YtncnojgemmcplaaGreatDoorDwC
namespace Go.Proofs.YtncnojgemmcplaaGreatDoor.St.Dc
open Go.RowKit

section
variable {w0 W W' : World} {K : DoK} {S : Sto}
theorem mlOf_old {lt : List Ltr} {l : Ltr} {m : Md} (h : 0 ≤ m.wh ∧ m.wh < lt.length) : mlOf (lt ++ [l]) m = mlOf lt m := by
  unfold mlOf
  rw [List.getElem?_append_left (by omega)]
theorem mlOf_new {lt : List Ltr} {l : Ltr} {fr tt : Int} : mlOf (lt ++ [l]) ⟨fr, tt, (lt.length : Int)⟩ = ⟨fr, tt, l⟩ := by
  unfold mlOf
  simp
set_option maxRecDepth 100000 in
set_option maxHeartbeats 8000000 in
theorem sendD_any (h : DoR w0 W K S) (hp : DoPl K S) (h5 : K.L.length ≤ 500) (hlt : K.lt.length ≤ 50000) (fr tt : Int) (l : Ltr) :
    Calls Tryz.prog 70 #[.pointer (some ⟨K.B, 0, none⟩), .int .i64 fr, .int .i64 tt, .agg #[.int .i64 l.c, .int .i64 l.key, .int .i64 l.rd, .bool l.tells, .int .i64 l.h.s.t, .int .i64 l.h.s.c, .int .i64 l.h.v]] W fun en W' => en = .returned (.tuple #[]) ∧ DoTold 1 w0 K S W { S with mails := sendL S.mails ⟨fr, tt, l⟩ } W' := by
  obtain ⟨la, lc, evl⟩ := ownsRow_slice (h.facts .vl trivial)
  have hb0 : Below W.heap.size W (W.alloc (.cells #[.int .i64 l.c, .int .i64 l.key, .int .i64 l.rd, .bool l.tells, .int .i64 l.h.s.t, .int .i64 l.h.s.c, .int .i64 l.h.v] 144)) := belA (Below.refl _ _) _
  have HV := hideIt (h.below hb0)
  have HVB := hideIt hb0
  have HVL : Hid ((W.alloc (.cells #[.int .i64 l.c, .int .i64 l.key, .int .i64 l.rd, .bool l.tells, .int .i64 l.h.s.t, .int .i64 l.h.s.c, .int .i64 l.h.v] 144)).heap[W.heap.size]? = some (.cells #[.int .i64 l.c, .int .i64 l.key, .int .i64 l.rd, .bool l.tells, .int .i64 l.h.s.t, .int .i64 l.h.s.c, .int .i64 l.h.v] 144)) := heap_alloc_new W _
  have HPl := hideIt hp
  have hBl := h.ltB
  clear h hp hb0
  go_enter Tryz.func70, Tryz.ntmps70
  go_upto_region 1 with fail
  generalize W.alloc (.cells #[.int .i64 l.c, .int .i64 l.key, .int .i64 l.rd, .bool l.tells, .int .i64 l.h.s.t, .int .i64 l.h.s.c, .int .i64 l.h.v] 144) = V at *
  have HT : Hid (∀ Z, Below V.heap.size V Z → Z.cell? ⟨K.B, 8, none⟩ = some (.slice la K.lt.length lc)) := fun Z hZ => by
    rw [← evl]; exact (HV.out.below hZ).cells.2.2.1
  have HS : Hid (∀ Z, Below V.heap.size V Z → Calls Tryz.prog 104 #[.pointer (some ⟨K.B, 5, none⟩), .agg #[.int .i64 fr, .int .i64 tt, .int .i64 (K.lt.length : Int)]] Z fun e w' => SendTold w0.heap.size K.B 5 K.vm K.L ⟨fr, tt, (K.lt.length : Int)⟩ Z e w') := fun Z hZ => send_any ⟨fr, tt, (K.lt.length : Int)⟩ _ _ _ _ _ _ _ h5 _ (HV.out.below hZ).net
  refine wp_region_L (B := [11]) (S := fun _ => True) (T := fun Z => Below V.heap.size V Z) (by kernel_rfl) ⟨trivial, (Below.refl _ _).drew⟩ (fun hHeld => ?_)
  refine wpAnyL_takeS (i := 0) (v := ?_) rfl (by kernel_rfl) (by kernel_rfl) (by kernel_rfl) (by kernel_rfl) (fun _ _ _ h => h) (Or.inl ⟨by rfl, ?_⟩) (by assumption) ?_
  rotate_left 1
  · intro wz _
    go_simp
    all_goals with_reducible rfl
  simp only [Act.put, List.setIfInBounds_toArray, List.set_cons_zero, List.set_cons_succ, List.getElem_toArray, List.getElem_cons_zero]
  refine wpAnyL_takeS (i := 1) (v := ?_) rfl (by kernel_rfl) (by kernel_rfl) (by kernel_rfl) (by kernel_rfl) (fun _ _ _ h => h) (Or.inl ⟨by rfl, ?_⟩) (by assumption) ?_
  rotate_left 1
  · intro wz _
    go_simp
    all_goals with_reducible rfl
  simp only [Act.put, List.setIfInBounds_toArray, List.set_cons_zero, List.set_cons_succ, List.getElem_toArray, List.getElem_cons_zero, List.getElem_cons_succ]
  refine wpAnyL_takeS (i := 2) (v := ?_) rfl (by kernel_rfl) (by kernel_rfl) (by kernel_rfl) (by kernel_rfl) (fun _ _ _ h => h) (Or.inl ⟨by rfl, ?_⟩) (by assumption) ?_
  rotate_left 1
  · intro wz _
    go_simp
    all_goals with_reducible rfl
  simp only [Act.put, List.setIfInBounds_toArray, List.set_cons_zero, List.set_cons_succ, List.getElem_toArray, List.getElem_cons_zero, List.getElem_cons_succ]
  refine wpAnyL_takeS (i := 3) (v := ?_) rfl (by kernel_rfl) (by kernel_rfl) (by kernel_rfl) (by kernel_rfl) (fun _ _ _ h => h) (Or.inl ⟨by rfl, ?_⟩) (by assumption) ?_
  rotate_left 1
  · intro wz _
    go_simp
    all_goals with_reducible rfl
  simp only [Act.put, List.setIfInBounds_toArray, List.set_cons_zero, List.set_cons_succ, List.getElem_toArray, List.getElem_cons_zero, List.getElem_cons_succ]
  refine wpAnyL_takeS (i := 4) (v := ?_) rfl (by kernel_rfl) (by kernel_rfl) (by kernel_rfl) (by kernel_rfl) (fun _ _ _ h => h) (Or.inl ⟨by rfl, ?_⟩) (by assumption) ?_
  rotate_left 1
  · intro wz _
    go_simp
    all_goals with_reducible rfl
  simp only [Act.put, List.setIfInBounds_toArray, List.set_cons_zero, List.set_cons_succ, List.getElem_toArray, List.getElem_cons_zero, List.getElem_cons_succ]
  refine wpAnyL_takeS (i := 5) (v := ?_) rfl (by kernel_rfl) (by kernel_rfl) (by kernel_rfl) (by kernel_rfl) (fun _ _ _ h => h) (Or.inl ⟨by rfl, ?_⟩) (by assumption) ?_
  rotate_left 1
  · intro wz _
    go_simp
    all_goals with_reducible rfl
  simp only [Act.put, List.setIfInBounds_toArray, List.set_cons_zero, List.set_cons_succ, List.getElem_toArray, List.getElem_cons_zero, List.getElem_cons_succ]
  refine wpAnyL_takeS (i := 6) (v := ?_) rfl (by kernel_rfl) (by kernel_rfl) (by kernel_rfl) (by kernel_rfl) (fun _ _ _ h => h) (Or.inl ⟨by rfl, ?_⟩) (by assumption) ?_
  rotate_left 1
  · intro wz _
    go_simp
    all_goals with_reducible rfl
  simp only [Act.put, List.setIfInBounds_toArray, List.set_cons_zero, List.set_cons_succ, List.getElem_toArray, List.getElem_cons_zero, List.getElem_cons_succ]
  refine wpAnyL_takeS (i := 7) (v := ?_) rfl (by kernel_rfl) (by kernel_rfl) (by kernel_rfl) (by kernel_rfl) (fun _ _ _ h => h) (Or.inl ⟨by rfl, ?_⟩) (by assumption) ?_
  rotate_left 1
  · intro wz _
    go_simp
    all_goals with_reducible rfl
  simp only [Act.put, List.setIfInBounds_toArray, List.set_cons_zero, List.set_cons_succ, List.getElem_toArray, List.getElem_cons_zero, List.getElem_cons_succ]
  refine wpAnyL_take [9, 10, 11, 12] (i := 8) (v := ?_) rfl (by kernel_rfl) (by kernel_rfl) (by kernel_rfl) (by kernel_rfl) (fun _ _ _ h => h) (Or.inl ⟨by rfl, ?_⟩) (by assumption) ?_
  rotate_left 1
  · intro wz sb
    have y0 := HT.out wz sb.2
    go_simp
    all_goals with_reducible rfl
  simp only [Act.put, List.setIfInBounds_toArray, List.set_cons_zero, List.set_cons_succ, List.getElem_toArray, List.getElem_cons_zero, List.getElem_cons_succ]
  refine wpAnyL_takeS (i := 9) (v := ?_) rfl (by kernel_rfl) (by kernel_rfl) (by kernel_rfl) (by kernel_rfl) (fun _ _ _ h => h) (Or.inl ⟨by rfl, ?_⟩) (by assumption) ?_
  rotate_left 1
  · intro wz _
    go_simp
    all_goals with_reducible rfl
  simp only [Act.put, List.setIfInBounds_toArray, List.set_cons_zero, List.set_cons_succ, List.getElem_toArray, List.getElem_cons_zero, List.getElem_cons_succ]
  refine wpAnyL_takeS (i := 10) (v := ?_) rfl (by kernel_rfl) (by kernel_rfl) (by kernel_rfl) (by kernel_rfl) (fun _ _ _ h => h) (Or.inl ⟨by rfl, ?_⟩) (by assumption) ?_
  rotate_left 1
  · intro wz _
    go_simp
    all_goals with_reducible rfl
  simp only [Act.put, List.setIfInBounds_toArray, List.set_cons_zero, List.set_cons_succ, List.getElem_toArray, List.getElem_cons_zero, List.getElem_cons_succ]
  generalize V.drew = Y0 at hHeld ⊢
  refine wpAnyL_ready (rs := [11]) (by kernel_rfl) (by simp) (AllReadyL.last rfl (by kernel_rfl) (fun Q hQ => ?_) AllReadyL.nil)
  go_simp
  refine (HS.out _ hHeld.2).mono ?_
  clear HS HT
  rintro e V2 (⟨h1, rfl, hb2⟩ | ⟨h1, rfl, v', w1, hg, rfl, hr⟩)
  · have HR : Hid (DoTold 1 w0 K S W { S with mails := sendL S.mails ⟨fr, tt, l⟩ } V2) := by
      have hlen := HPl.out.len
      have e2 : sendL S.mails ⟨fr, tt, l⟩ = S.mails := by unfold sendL; rw [if_neg (by omega)]
      have hbb := belJ hHeld.2 hb2
      rw [e2]
      exact ⟨K, HV.out.below hbb, HPl.out, Nat.le_succ _, DFr.below (belJ HVB.out hbb)⟩
    refine hQ.out _ _ trivial (fun _ => ?_)
    clear hQ Q hb2 hHeld HV HVL HPl HVB
    refine wpAnyL_takeE (i := 12) (v := ?_) rfl (by kernel_rfl) (by kernel_rfl) (by kernel_rfl) (by kernel_rfl) (by kernel_rfl) (fun _ _ _ h => h) (Or.inl ⟨by rfl, ?_⟩) (by assumption) ?_
    rotate_left 1
    · intro wz _
      go_simp
      all_goals with_reducible rfl
    simp only [Act.put, List.setIfInBounds_toArray, List.set_cons_zero, List.set_cons_succ, List.getElem_toArray, List.getElem_cons_zero, List.getElem_cons_succ]
    refine wpAnyL_done (by kernel_rfl) ?_ _
    go_wp2
    go_end0
    exact ⟨rfl, HR.out⟩
  · have hP := HV.out.below hHeld.2
    have hF := (DFr.below (K := K) (k := S.k) HVB.out).trans (DFr.below hHeld.2)
    have hl1 : (K.L ++ [(⟨fr, tt, (K.lt.length : Int)⟩ : Md)]).length = K.L.length + 1 := by simp
    rw [← hl1] at hr
    obtain ⟨hP1, hF1⟩ := hP.mail hg hr
    have hbx : (w1.setCell ⟨K.B, 5 + 2, none⟩ v').heap[W.heap.size]? = some (.cells #[.int .i64 l.c, .int .i64 l.key, .int .i64 l.rd, .bool l.tells, .int .i64 l.h.s.t, .int .i64 l.h.s.c, .int .i64 l.h.v] 144) := by
      have hq : Y0.heap[W.heap.size]? = some (.cells #[.int .i64 l.c, .int .i64 l.key, .int .i64 l.rd, .bool l.tells, .int .i64 l.h.s.t, .int .i64 l.h.s.c, .int .i64 l.h.v] 144) := (hHeld.2.block _ (lt_of_heap HVL.out)).trans HVL.out
      refine (rest_row hg W.heap.size (lt_of_heap hq) (fun e' => ?_) fun e' => ?_).trans hq
      · omega
      · have h2 := hP.tag (p := .vm) trivial e'
        rw [hq] at h2
        exact absurd (show (145 : Nat) = 141 from h2) (by decide)
    have HP1 := hideIt hP1
    have HF1 := hideIt (hF.trans hF1)
    have HBX := hideIt hbx
    refine hQ.out _ _ trivial (fun _ => ?_)
    clear hQ Q hHeld HV HVL HVB hP hF hP1 hF1 hbx hg hr
    refine wpAnyL_takeE (i := 12) (v := ?_) rfl (by kernel_rfl) (by kernel_rfl) (by kernel_rfl) (by kernel_rfl) (by kernel_rfl) (fun _ _ _ h => h) (Or.inl ⟨by rfl, ?_⟩) (by assumption) ?_
    rotate_left 1
    · intro wz _
      go_simp
      all_goals with_reducible rfl
    simp only [Act.put, List.setIfInBounds_toArray, List.set_cons_zero, List.set_cons_succ, List.getElem_toArray, List.getElem_cons_zero, List.getElem_cons_succ]
    refine wpAnyL_done (by kernel_rfl) ?_ _
    go_upto_region 2 with fail
    generalize w1.setCell ⟨K.B, 5 + 2, none⟩ v' = W1 at *
    have HT : Hid (∀ Z, Below W1.heap.size W1 Z → Z.cell? ⟨K.B, 8, none⟩ = some (.slice la K.lt.length lc)) := fun Z hZ => by
      rw [← evl]; exact (HP1.out.below hZ).cells.2.2.1
    have HU : Hid (∀ Z, Below W1.heap.size W1 Z → Z.cell? ⟨W.heap.size, 0, none⟩ = some (.int .i64 l.c) ∧ Z.cell? ⟨W.heap.size, 1, none⟩ = some (.int .i64 l.key) ∧ Z.cell? ⟨W.heap.size, 2, none⟩ = some (.int .i64 l.rd) ∧ Z.cell? ⟨W.heap.size, 3, none⟩ = some (.bool l.tells) ∧ Z.cell? ⟨W.heap.size, 4, none⟩ = some (.int .i64 l.h.s.t) ∧ Z.cell? ⟨W.heap.size, 5, none⟩ = some (.int .i64 l.h.s.c) ∧ Z.cell? ⟨W.heap.size, 6, none⟩ = some (.int .i64 l.h.v)) := fun Z hZ => by
      have hb := (hZ.block W.heap.size (lt_of_heap HBX.out)).trans HBX.out
      have hcc := fun i => cell_of_row Z W.heap.size i _ 144 _ hb
      exact ⟨by rw [hcc]; rfl, by rw [hcc]; rfl, by rw [hcc]; rfl, by rw [hcc]; rfl, by rw [hcc]; rfl, by rw [hcc]; rfl, by rw [hcc]; rfl⟩
    refine wp_region_L (B := [7, 10]) (S := fun _ => True) (T := fun Z => Below W1.heap.size W1 Z) (by kernel_rfl) ⟨trivial, (Below.refl _ _).drew⟩ (fun hHeld => ?_)
    refine wpAnyL_takeS (i := 0) (v := ?_) rfl (by kernel_rfl) (by kernel_rfl) (by kernel_rfl) (by kernel_rfl) (fun _ _ _ h => h) (Or.inl ⟨by rfl, ?_⟩) (by assumption) ?_
    rotate_left 1
    · intro wz _
      go_simp
      all_goals with_reducible rfl
    simp only [Act.put, List.setIfInBounds_toArray, List.set_cons_zero, List.set_cons_succ, List.getElem_toArray, List.getElem_cons_zero]
    refine wpAnyL_takeS (i := 1) (v := ?_) rfl (by kernel_rfl) (by kernel_rfl) (by kernel_rfl) (by kernel_rfl) (fun _ _ _ h => h) (Or.inl ⟨by rfl, ?_⟩) (by assumption) ?_
    rotate_left 1
    · intro wz _
      go_simp
      all_goals with_reducible rfl
    simp only [Act.put, List.setIfInBounds_toArray, List.set_cons_zero, List.set_cons_succ, List.getElem_toArray, List.getElem_cons_zero, List.getElem_cons_succ]
    refine wpAnyL_takeS (i := 2) (v := ?_) rfl (by kernel_rfl) (by kernel_rfl) (by kernel_rfl) (by kernel_rfl) (fun _ _ _ h => h) (Or.inl ⟨by rfl, ?_⟩) (by assumption) ?_
    rotate_left 1
    · intro wz _
      go_simp
      all_goals with_reducible rfl
    simp only [Act.put, List.setIfInBounds_toArray, List.set_cons_zero, List.set_cons_succ, List.getElem_toArray, List.getElem_cons_zero, List.getElem_cons_succ]
    refine wpAnyL_takeS (i := 3) (v := ?_) rfl (by kernel_rfl) (by kernel_rfl) (by kernel_rfl) (by kernel_rfl) (fun _ _ _ h => h) (Or.inl ⟨by rfl, ?_⟩) (by assumption) ?_
    rotate_left 1
    · intro wz _
      go_simp
      all_goals with_reducible rfl
    simp only [Act.put, List.setIfInBounds_toArray, List.set_cons_zero, List.set_cons_succ, List.getElem_toArray, List.getElem_cons_zero, List.getElem_cons_succ]
    refine wpAnyL_take [7, 10] (i := 4) (v := ?_) rfl (by kernel_rfl) (by kernel_rfl) (by kernel_rfl) (by kernel_rfl) (fun _ _ _ h => h) (Or.inl ⟨by rfl, ?_⟩) (by assumption) ?_
    rotate_left 1
    · intro wz sb
      have y0 := HT.out wz sb.2
      go_simp
      all_goals with_reducible rfl
    simp only [Act.put, List.setIfInBounds_toArray, List.set_cons_zero, List.set_cons_succ, List.getElem_toArray, List.getElem_cons_zero, List.getElem_cons_succ]
    refine wpAnyL_take [6, 7, 10] (i := 5) (v := ?_) rfl (by kernel_rfl) (by kernel_rfl) (by kernel_rfl) (by kernel_rfl) (fun _ _ _ h => h) (Or.inl ⟨by rfl, ?_⟩) (by assumption) ?_
    rotate_left 1
    · intro wz sb
      obtain ⟨y0, y1, y2, y3, y4, y5, y6⟩ := HU.out wz sb.2
      go_simp
      all_goals with_reducible rfl
    simp only [Act.put, List.setIfInBounds_toArray, List.set_cons_zero, List.set_cons_succ, List.getElem_toArray, List.getElem_cons_zero, List.getElem_cons_succ]
    generalize W1.drew = X0 at hHeld ⊢
    refine wpAnyL_ready (rs := [6]) (by kernel_rfl) (by simp) (AllReadyL.cons rfl (fun Q hQ => ?_) AllReadyL.nil)
    go_simp
    have hb1 : Below W1.heap.size W1 (X0.alloc (.cells #[.int .i64 l.c, .int .i64 l.key, .int .i64 l.rd, .bool l.tells, .int .i64 l.h.s.t, .int .i64 l.h.s.c, .int .i64 l.h.v] 144)) := hHeld.2.alloc hHeld.2.size _
    have hnew := heap_alloc_new X0 (.cells #[.int .i64 l.c, .int .i64 l.key, .int .i64 l.rd, .bool l.tells, .int .i64 l.h.s.t, .int .i64 l.h.s.c, .int .i64 l.h.v] 144)
    refine hQ.out _ _ ⟨trivial, hb1⟩ (fun hHeld2 => ?_)
    clear hQ Q hb1
    generalize X0.alloc (.cells #[.int .i64 l.c, .int .i64 l.key, .int .i64 l.rd, .bool l.tells, .int .i64 l.h.s.t, .int .i64 l.h.s.c, .int .i64 l.h.v] 144) = X1 at *
    have hP := HP1.out.below hHeld2.2
    have hF := HF1.out.trans (DFr.below hHeld2.2)
    obtain ⟨v2, w7, hr, ho, hg, hob⟩ := run_appL (e := l) (cs := #[.int .i64 l.c, .int .i64 l.key, .int .i64 l.rd, .bool l.tells, .int .i64 l.h.s.t, .int .i64 l.h.s.c, .int .i64 l.h.v]) rfl (hP.facts .vl trivial) hnew hP.bel.size (by show K.lt.length ≤ 100000; omega) 52
    obtain ⟨hP7, hF7⟩ := hP.letter (l' := K.lt ++ [l]) hg ho
    have eB : w7.heap[K.B]? = X1.heap[K.B]? := hg.block K.B hP.ltB fun e' => hP.apart (p := .vl) (q := .B) trivial trivial (fun e => by cases e) (b := K.B) e'.symm rfl
    have c7 : w7.cell? ⟨K.B, 8, none⟩ = some (.slice la K.lt.length lc) := by
      rw [World.cell?_of_block (a := ⟨K.B, 8, none⟩) eB, ← evl]; exact hP.cells.2.2.1
    have f7 : w7.frozen? ⟨K.B, 8, none⟩ = false := (World.frozen?_of_block (a := ⟨K.B, 8, none⟩) eB).trans (hP.fzB 8)
    replace hr : (Builtin.append_ #[52, 52] 52 #[K.vl, .slice (some ⟨X0.heap.size, 0, none⟩) 1 1]).run Tryz.prog X1 = .ok v2 w7 := hr
    rw [evl] at hr
    have HR : Hid (DoTold 1 w0 K S W { S with mails := sendL S.mails ⟨fr, tt, l⟩ } (w7.setCell ⟨K.B, 8, none⟩ v2)) := by
      have hlen := HPl.out.len
      refine ⟨_, hP7.cast _ _ _, ⟨?_, fun m hm => ?_, HPl.out.hs, HPl.out.fw, HPl.out.lk⟩, ?_, hF.trans hF7⟩
      · show sendL S.mails ⟨fr, tt, l⟩ = (K.L ++ [(⟨fr, tt, (K.lt.length : Int)⟩ : Md)]).map (mlOf (K.lt ++ [l]))
        unfold sendL
        rw [if_pos (by omega), List.map_append, List.map_singleton, mlOf_new, HPl.out.ms]
        congr 1
        exact List.map_congr_left fun m hm => (mlOf_old (HPl.out.wh m hm)).symm
      · show 0 ≤ m.wh ∧ m.wh < ((K.lt ++ [l]).length : Int)
        rw [List.length_append, List.length_singleton]
        rcases List.mem_append.1 hm with hm | hm
        · have := HPl.out.wh m hm; omega
        · rw [List.mem_singleton.1 hm]; show (0 : Int) ≤ (K.lt.length : Int) ∧ (K.lt.length : Int) < _; omega
      · show (K.lt ++ [l]).length ≤ _
        simp
    refine wpAnyL_ready (rs := [7]) (by kernel_rfl) (by simp) (AllReadyL.last rfl (by kernel_rfl) (fun Q hQ => ?_) AllReadyL.nil)
    refine step_append_run (by rfl) _ _ 52 rfl _ _ v2 w7 rfl rfl hr ?_
    obtain ⟨a7, n7, cap7, rfl⟩ : ∃ a n c, v2 = .slice a n c := by
      obtain ⟨a, c, e'⟩ := ownsRow_slice ho
      exact ⟨a, _, c, e'⟩
    refine hQ.out _ _ trivial (fun _ => ?_)
    clear hQ Q hr ho hg hob hHeld hHeld2 hnew eB HT HU hP hF hP7 hF7 HP1 HF1 HBX
    refine wpAnyL_takeE (i := 8) (v := ?_) rfl (by kernel_rfl) (by kernel_rfl) (by kernel_rfl) (by kernel_rfl) (by kernel_rfl) (fun _ _ _ h => h) (Or.inl ⟨by rfl, ?_⟩) (by assumption) ?_
    rotate_left 1
    · intro wz _
      go_simp
      all_goals with_reducible rfl
    simp only [Act.put, List.setIfInBounds_toArray, List.set_cons_zero, List.set_cons_succ, List.getElem_toArray, List.getElem_cons_zero, List.getElem_cons_succ]
    refine wpAnyL_takeE (i := 9) (v := ?_) rfl (by kernel_rfl) (by kernel_rfl) (by kernel_rfl) (by kernel_rfl) (by kernel_rfl) (fun _ _ _ h => h) (Or.inl ⟨by rfl, ?_⟩) (by assumption) ?_
    rotate_left 1
    · intro wz _
      go_simp
      all_goals with_reducible rfl
    simp only [Act.put, List.setIfInBounds_toArray, List.set_cons_zero, List.set_cons_succ, List.getElem_toArray, List.getElem_cons_zero, List.getElem_cons_succ]
    refine wpAnyL_ready (rs := [10]) (by kernel_rfl) (by simp) (AllReadyL.last rfl (by kernel_rfl) (fun Q hQ => ?_) AllReadyL.nil)
    go_simp
    refine hQ.out _ _ trivial (fun _ => ?_)
    clear hQ Q c7 f7
    refine wpAnyL_done (by kernel_rfl) ?_ _
    go_wp2
    go_end0
    exact ⟨rfl, HR.out⟩
end
end Go.Proofs.YtncnojgemmcplaaGreatDoor.St.Dc

namespace Go.Proofs.YtncnojgemmcplaaGreatDoor.St.Dc
open Go.RowKit

theorem sendL_le {l : List Ml} {m : Ml} (h : l.length ≤ 500) : (sendL l m).length ≤ 500 := by
  unfold sendL
  split
  · simp; omega
  · exact h
def sendN (n : Nat) (c : Int) (x : Cl) (l : List Ml) (j : Nat) : List Ml := (List.range j).foldl (fun l (q : Nat) => sendL l ⟨n + c, q, ⟨c, x.key, x.rd, x.tells, x.kept⟩⟩) l
theorem sendN_succ (n : Nat) (c : Int) (x : Cl) (l : List Ml) (j : Nat) : sendN n c x l (j + 1) = sendL (sendN n c x l j) ⟨n + c, j, ⟨c, x.key, x.rd, x.tells, x.kept⟩⟩ := by
  unfold sendN
  rw [List.range_succ, List.foldl_append]
  rfl
theorem sendN_le (n : Nat) (c : Int) (x : Cl) {l : List Ml} (h : l.length ≤ 500) : ∀ j, (sendN n c x l j).length ≤ 500
  | 0 => h
  | j + 1 => by rw [sendN_succ]; exact sendL_le (sendN_le n c x h j)
section
variable {w0 W W' : World} {K : DoK} {S : Sto}
set_option maxRecDepth 100000 in
set_option maxHeartbeats 8000000 in
theorem roundD_any (h : DoR w0 W K S) (hp : DoPl K S) (hn7 : S.n ≤ 7) (hk8 : S.k ≤ 8) {i : Nat} (hi : i < S.k) (hrd : 0 ≤ (S.cl i).rd ∧ (S.cl i).rd ≤ 100000) (h5 : S.mails.length ≤ 500) (hlt : K.lt.length ≤ 40000) :
    Calls Tryz.prog 67 #[.pointer (some ⟨K.B, 0, none⟩), .int .i64 (i : Int)] W fun en W' => en = .returned (.tuple #[]) ∧ DoTold 7 w0 K S W (roundS S i (S.cl i)) W' := by
  have c10 := h.cells.2.2.2.2.1
  have hii : (i : Int) < (S.k : Int) := by omega
  have hx := (h.facts .C trivial).2.1 i hi
  have a6 := hx.rd
  have a10 := hx.cv
  have f6 := h.fzC (i * 11 + 6)
  have f10 := h.fzC (i * 11 + 10)
  have hw : IntKind.i64.wrap ((S.cl i).rd + 1) = (S.cl i).rd + 1 := IntWalk.i64_in _ (by omega)
  have hO : OnlyC W ((W.setCell ⟨K.C, i * 11 + 6, none⟩ (.int .i64 ((S.cl i).rd + 1))).setCell ⟨K.C, i * 11 + 10, none⟩ (.slice none 0 0)) K.C (i * 11) 11 107 :=
    ((OnlyC.refl (h.facts .C trivial).1).set (by omega) _).set (by omega) _
  have hcell : ∀ j, j ≠ i * 11 + 6 → j ≠ i * 11 + 10 → ((W.setCell ⟨K.C, i * 11 + 6, none⟩ (.int .i64 ((S.cl i).rd + 1))).setCell ⟨K.C, i * 11 + 10, none⟩ (.slice none 0 0)).cell? ⟨K.C, j, none⟩ = W.cell? ⟨K.C, j, none⟩ := fun j h1 h2 => by
    rw [World.cell?_setCell_other _ _ _ _ (offNe (Ne.symm h2)), World.cell?_setCell_other _ _ _ _ (offNe (Ne.symm h1))]
  have hC : DcAt ((W.setCell ⟨K.C, i * 11 + 6, none⟩ (.int .i64 ((S.cl i).rd + 1))).setCell ⟨K.C, i * 11 + 10, none⟩ (.slice none 0 0)) K.C (i * 11) (roundC (S.cl i)) (.slice none 0 0) := by
    refine ⟨(hcell _ (by omega) (by omega)).trans hx.busy, (hcell _ (by omega) (by omega)).trans hx.gone, (hcell _ (by omega) (by omega)).trans hx.write, (hcell _ (by omega) (by omega)).trans hx.tells, (hcell _ (by omega) (by omega)).trans hx.key, (hcell _ (by omega) (by omega)).trans hx.value, ?_, hx.kept.cells fun j h1 h2 => hcell j (by omega) (by omega), ?_⟩
    · rw [World.cell?_setCell_other _ _ _ _ (offNe (by omega))]
      exact World.cell?_setCell_same' _ _ _ (by rw [a6]; rfl)
    · exact World.cell?_setCell_same' _ _ _ (by rw [World.cell?_setCell_other _ _ _ _ (offNe (by omega)), a10]; rfl)
  obtain ⟨hP1, hF1⟩ := h.setC hi hO hC (.inr ⟨rfl, rfl⟩)
  have HP1 := hideIt hP1
  have HF1 := hideIt hF1
  have HPl1 : Hid (DoPl { K with cv := updP K.cv i (.slice none 0 0) } { S with cl := updC S.cl i (roundC (S.cl i)) }) := hp.raw ⟨rfl, rfl, rfl, rfl, rfl⟩ ⟨rfl, rfl, rfl⟩
  have c0 : ((W.setCell ⟨K.C, i * 11 + 6, none⟩ (.int .i64 ((S.cl i).rd + 1))).setCell ⟨K.C, i * 11 + 10, none⟩ (.slice none 0 0)).cell? ⟨K.B, 0, none⟩ = some (.int .i64 (S.n : Int)) := hP1.cells.1.1
  have HRd : Hid (roundS S i (S.cl i) = { S with cl := updC S.cl i (roundC (S.cl i)), mails := sendN S.n i (roundC (S.cl i)) S.mails S.n }) := rfl
  have HLe : Hid (∀ j, (sendN S.n i (roundC (S.cl i)) S.mails j).length ≤ 500) := sendN_le S.n i (roundC (S.cl i)) h5
  generalize hxx : roundC (S.cl i) = x at *
  have Hrd : Hid (x.rd = (S.cl i).rd + 1) := by rw [← hxx]; rfl
  clear hO hC hcell hx h hp hP1 hF1 hxx
  generalize roundS S i (S.cl i) = Send at HRd ⊢
  go_enter Tryz.func67, Tryz.ntmps67
  go_wp2
  clear a6 a10 f6 f10 hw c0 c10
  generalize (W.setCell _ _).setCell _ _ = W1 at *
  go_loopw [27] (fun v wr => ∃ (j : Nat) (K2 : DoK), j ≤ S.n ∧ v = .int .i64 j ∧ DoR w0 wr K2 { S with cl := updC S.cl i x, mails := sendN S.n i x S.mails j } ∧ DoPl K2 { S with cl := updC S.cl i x, mails := sendN S.n i x S.mails j } ∧ K2.lt.length ≤ K.lt.length + j ∧ DFr K S.k W wr K2) (fun v _ => S.n - (intOf v).toNat)
  case atStart => exact ⟨0, _, Nat.zero_le _, rfl, HP1.out, HPl1.out, Nat.le_refl _, HF1.out⟩
  case round =>
    clear HP1 HF1 HPl1
    obtain ⟨j, K2, hj, rfl, hP, hPl, hl2, hF⟩ := hrel
    have HP := hideIt hP
    have HPl := hideIt hPl
    have HF := hideIt hF
    clear hP hPl hF
    by_cases hjn : j < S.n
    · have hjn' : (j : Int) < S.n := by omega
      have HT : Hid (∀ Z, Below wr.heap.size wr Z → Z.cell? ⟨K.B, 0, none⟩ = some (.int .i64 (S.n : Int)) ∧ Z.cell? ⟨K.C, i * 11 + 4, none⟩ = some (.int .i64 x.key) ∧ Z.cell? ⟨K.C, i * 11 + 6, none⟩ = some (.int .i64 x.rd) ∧ Z.cell? ⟨K.C, i * 11 + 3, none⟩ = some (.bool x.tells) ∧ Z.cell? ⟨K.C, i * 11 + 7, none⟩ = some (.int .i64 x.kept.s.t) ∧ Z.cell? ⟨K.C, i * 11 + 8, none⟩ = some (.int .i64 x.kept.s.c) ∧ Z.cell? ⟨K.C, i * 11 + 9, none⟩ = some (.int .i64 x.kept.v)) := fun Z hZ => by
        have hZP := HP.out.below hZ
        obtain ⟨⟨q0, _⟩, _⟩ := hZP.cells
        have hx := (hZP.facts .C trivial).2.1 i hi
        have e : updC S.cl (i : Int) x (i : Int) = x := updC_same _ _ _
        have hx' : DcAt Z K2.C (i * 11) (updC S.cl (i : Int) x (i : Int)) (K2.cv i) := hx
        rw [e, HF.out.fix.2.1] at hx'
        rw [HF.out.fix.1] at q0
        exact ⟨q0, hx'.key, hx'.rd, hx'.tells, hx'.kept.1, hx'.kept.2.1, hx'.kept.2.2⟩
      have hwn : IntKind.i64.wrap ((S.n : Int) + (i : Int)) = (S.n : Int) + (i : Int) := IntWalk.i64_in _ (by omega)
      have HS : Hid (∀ Z, Below wr.heap.size wr Z → Calls Tryz.prog 70 #[.pointer (some ⟨K.B, 0, none⟩), .int .i64 ((S.n : Int) + (i : Int)), .int .i64 (j : Int), .agg #[.int .i64 (i : Int), .int .i64 x.key, .int .i64 x.rd, .bool x.tells, .int .i64 x.kept.s.t, .int .i64 x.kept.s.c, .int .i64 x.kept.v]] Z fun en W' => en = .returned (.tuple #[]) ∧ ∃ K3, DoR w0 W' K3 { S with cl := updC S.cl i x, mails := sendN S.n i x S.mails (j + 1) } ∧ DoPl K3 { S with cl := updC S.cl i x, mails := sendN S.n i x S.mails (j + 1) } ∧ K3.lt.length ≤ K.lt.length + (j + 1) ∧ DFr K S.k W W' K3) := fun Z hZ => by
        have h5' : K2.L.length ≤ 500 := by
          have := HPl.out.len
          rw [← this]
          exact HLe.out j
        have := sendD_any (HP.out.below hZ) HPl.out h5' (by omega) ((S.n : Int) + (i : Int)) (j : Int) ⟨i, x.key, x.rd, x.tells, x.kept⟩
        rw [HF.out.fix.1] at this
        refine this.mono fun e W' ⟨h1, K3, h2, h3, h4, h6⟩ => ⟨h1, K3, ?_, ?_, by omega, HF.out.trans ((DFr.below hZ).trans h6)⟩
        · rw [sendN_succ]; exact h2
        · rw [sendN_succ]; exact h3
      go_wp2_with fail
      refine wp_region_L (B := [27]) (S := fun _ => True) (T := fun Z => Below wr.heap.size wr Z) (by kernel_rfl) ⟨trivial, (Below.refl _ _).drew⟩ (fun hHeld => ?_)
      refine wpAnyL_takeS (i := 0) (v := ?_) rfl (by kernel_rfl) (by kernel_rfl) (by kernel_rfl) (by kernel_rfl) (fun _ _ _ h => h) (Or.inl ⟨by rfl, ?_⟩) (by assumption) ?_
      rotate_left 1
      · intro wz _
        go_simp
        all_goals with_reducible rfl
      simp only [Act.put, List.setIfInBounds_toArray, List.set_cons_zero, List.set_cons_succ, List.getElem_toArray, List.getElem_cons_zero]
      refine wpAnyL_takeS (i := 1) (v := ?_) rfl (by kernel_rfl) (by kernel_rfl) (by kernel_rfl) (by kernel_rfl) (fun _ _ _ h => h) (Or.inl ⟨by rfl, ?_⟩) (by assumption) ?_
      rotate_left 1
      · intro wz _
        go_simp
        all_goals with_reducible rfl
      simp only [Act.put, List.setIfInBounds_toArray, List.set_cons_zero, List.set_cons_succ, List.getElem_toArray, List.getElem_cons_zero, List.getElem_cons_succ]
      refine wpAnyL_takeS (i := 2) (v := ?_) rfl (by kernel_rfl) (by kernel_rfl) (by kernel_rfl) (by kernel_rfl) (fun _ _ _ h => h) (Or.inl ⟨by rfl, ?_⟩) (by assumption) ?_
      rotate_left 1
      · intro wz _
        go_simp
        all_goals with_reducible rfl
      simp only [Act.put, List.setIfInBounds_toArray, List.set_cons_zero, List.set_cons_succ, List.getElem_toArray, List.getElem_cons_zero, List.getElem_cons_succ]
      refine wpAnyL_takeS (i := 3) (v := ?_) rfl (by kernel_rfl) (by kernel_rfl) (by kernel_rfl) (by kernel_rfl) (fun _ _ _ h => h) (Or.inl ⟨by rfl, ?_⟩) (by assumption) ?_
      rotate_left 1
      · intro wz _
        go_simp
        all_goals with_reducible rfl
      simp only [Act.put, List.setIfInBounds_toArray, List.set_cons_zero, List.set_cons_succ, List.getElem_toArray, List.getElem_cons_zero, List.getElem_cons_succ]
      refine wpAnyL_takeS (i := 4) (v := ?_) rfl (by kernel_rfl) (by kernel_rfl) (by kernel_rfl) (by kernel_rfl) (fun _ _ _ h => h) (Or.inl ⟨by rfl, ?_⟩) (by assumption) ?_
      rotate_left 1
      · intro wz _
        go_simp
        all_goals with_reducible rfl
      simp only [Act.put, List.setIfInBounds_toArray, List.set_cons_zero, List.set_cons_succ, List.getElem_toArray, List.getElem_cons_zero, List.getElem_cons_succ]
      refine wpAnyL_take [7, 27] (i := 5) (v := ?_) rfl (by kernel_rfl) (by kernel_rfl) (by kernel_rfl) (by kernel_rfl) (fun _ _ _ h => h) (Or.inl ⟨by rfl, ?_⟩) (by assumption) ?_
      rotate_left 1
      · intro wz sb
        obtain ⟨y0, y1, y2, y3, y4, y5, y6⟩ := HT.out wz sb.2
        go_simp
        all_goals with_reducible rfl
      simp only [Act.put, List.setIfInBounds_toArray, List.set_cons_zero, List.set_cons_succ, List.getElem_toArray, List.getElem_cons_zero, List.getElem_cons_succ]
      refine wpAnyL_takeS (i := 6) (v := ?_) rfl (by kernel_rfl) (by kernel_rfl) (by kernel_rfl) (by kernel_rfl) (fun _ _ _ h => h) (Or.inl ⟨by rfl, ?_⟩) (by assumption) ?_
      rotate_left 1
      · intro wz _
        go_simp
        all_goals with_reducible rfl
      simp only [Act.put, List.setIfInBounds_toArray, List.set_cons_zero, List.set_cons_succ, List.getElem_toArray, List.getElem_cons_zero, List.getElem_cons_succ]
      refine wpAnyL_takeS (i := 7) (v := ?_) rfl (by kernel_rfl) (by kernel_rfl) (by kernel_rfl) (by kernel_rfl) (fun _ _ _ h => h) (Or.inl ⟨by rfl, ?_⟩) (by assumption) ?_
      rotate_left 1
      · intro wz _
        go_simp
        all_goals with_reducible rfl
      simp only [Act.put, List.setIfInBounds_toArray, List.set_cons_zero, List.set_cons_succ, List.getElem_toArray, List.getElem_cons_zero, List.getElem_cons_succ]
      refine wpAnyL_takeS (i := 8) (v := ?_) rfl (by kernel_rfl) (by kernel_rfl) (by kernel_rfl) (by kernel_rfl) (fun _ _ _ h => h) (Or.inl ⟨by rfl, ?_⟩) (by assumption) ?_
      rotate_left 1
      · intro wz _
        go_simp
        all_goals with_reducible rfl
      simp only [Act.put, List.setIfInBounds_toArray, List.set_cons_zero, List.set_cons_succ, List.getElem_toArray, List.getElem_cons_zero, List.getElem_cons_succ]
      refine wpAnyL_takeS (i := 9) (v := ?_) rfl (by kernel_rfl) (by kernel_rfl) (by kernel_rfl) (by kernel_rfl) (fun _ _ _ h => h) (Or.inl ⟨by rfl, ?_⟩) (by assumption) ?_
      rotate_left 1
      · intro wz _
        go_simp
        all_goals with_reducible rfl
      simp only [Act.put, List.setIfInBounds_toArray, List.set_cons_zero, List.set_cons_succ, List.getElem_toArray, List.getElem_cons_zero, List.getElem_cons_succ]
      refine wpAnyL_takeS (i := 10) (v := ?_) rfl (by kernel_rfl) (by kernel_rfl) (by kernel_rfl) (by kernel_rfl) (fun _ _ _ h => h) (Or.inl ⟨by rfl, ?_⟩) (by assumption) ?_
      rotate_left 1
      · intro wz _
        go_simp
        all_goals with_reducible rfl
      simp only [Act.put, List.setIfInBounds_toArray, List.set_cons_zero, List.set_cons_succ, List.getElem_toArray, List.getElem_cons_zero, List.getElem_cons_succ]
      refine wpAnyL_takeS (i := 11) (v := ?_) rfl (by kernel_rfl) (by kernel_rfl) (by kernel_rfl) (by kernel_rfl) (fun _ _ _ h => h) (Or.inl ⟨by rfl, ?_⟩) (by assumption) ?_
      rotate_left 1
      · intro wz _
        go_simp
        all_goals with_reducible rfl
      simp only [Act.put, List.setIfInBounds_toArray, List.set_cons_zero, List.set_cons_succ, List.getElem_toArray, List.getElem_cons_zero, List.getElem_cons_succ]
      refine wpAnyL_takeS (i := 12) (v := ?_) rfl (by kernel_rfl) (by kernel_rfl) (by kernel_rfl) (by kernel_rfl) (fun _ _ _ h => h) (Or.inl ⟨by rfl, ?_⟩) (by assumption) ?_
      rotate_left 1
      · intro wz _
        go_simp
        all_goals with_reducible rfl
      simp only [Act.put, List.setIfInBounds_toArray, List.set_cons_zero, List.set_cons_succ, List.getElem_toArray, List.getElem_cons_zero, List.getElem_cons_succ]
      refine wpAnyL_take [26, 27] (i := 13) (v := ?_) rfl (by kernel_rfl) (by kernel_rfl) (by kernel_rfl) (by kernel_rfl) (fun _ _ _ h => h) (Or.inl ⟨by rfl, ?_⟩) (by assumption) ?_
      rotate_left 1
      · intro wz sb
        obtain ⟨y0, y1, y2, y3, y4, y5, y6⟩ := HT.out wz sb.2
        go_simp
        all_goals with_reducible rfl
      simp only [Act.put, List.setIfInBounds_toArray, List.set_cons_zero, List.set_cons_succ, List.getElem_toArray, List.getElem_cons_zero, List.getElem_cons_succ]
      refine wpAnyL_takeS (i := 14) (v := ?_) rfl (by kernel_rfl) (by kernel_rfl) (by kernel_rfl) (by kernel_rfl) (fun _ _ _ h => h) (Or.inl ⟨by rfl, ?_⟩) (by assumption) ?_
      rotate_left 1
      · intro wz _
        go_simp
        all_goals with_reducible rfl
      simp only [Act.put, List.setIfInBounds_toArray, List.set_cons_zero, List.set_cons_succ, List.getElem_toArray, List.getElem_cons_zero, List.getElem_cons_succ]
      refine wpAnyL_takeS (i := 15) (v := ?_) rfl (by kernel_rfl) (by kernel_rfl) (by kernel_rfl) (by kernel_rfl) (fun _ _ _ h => h) (Or.inl ⟨by rfl, ?_⟩) (by assumption) ?_
      rotate_left 1
      · intro wz _
        go_simp
        all_goals with_reducible rfl
      simp only [Act.put, List.setIfInBounds_toArray, List.set_cons_zero, List.set_cons_succ, List.getElem_toArray, List.getElem_cons_zero, List.getElem_cons_succ]
      refine wpAnyL_takeS (i := 16) (v := ?_) rfl (by kernel_rfl) (by kernel_rfl) (by kernel_rfl) (by kernel_rfl) (fun _ _ _ h => h) (Or.inl ⟨by rfl, ?_⟩) (by assumption) ?_
      rotate_left 1
      · intro wz _
        go_simp
        all_goals with_reducible rfl
      simp only [Act.put, List.setIfInBounds_toArray, List.set_cons_zero, List.set_cons_succ, List.getElem_toArray, List.getElem_cons_zero, List.getElem_cons_succ]
      refine wpAnyL_take [26, 27] (i := 17) (v := ?_) rfl (by kernel_rfl) (by kernel_rfl) (by kernel_rfl) (by kernel_rfl) (fun _ _ _ h => h) (Or.inl ⟨by rfl, ?_⟩) (by assumption) ?_
      rotate_left 1
      · intro wz sb
        obtain ⟨y0, y1, y2, y3, y4, y5, y6⟩ := HT.out wz sb.2
        go_simp
        all_goals with_reducible rfl
      simp only [Act.put, List.setIfInBounds_toArray, List.set_cons_zero, List.set_cons_succ, List.getElem_toArray, List.getElem_cons_zero, List.getElem_cons_succ]
      refine wpAnyL_takeS (i := 18) (v := ?_) rfl (by kernel_rfl) (by kernel_rfl) (by kernel_rfl) (by kernel_rfl) (fun _ _ _ h => h) (Or.inl ⟨by rfl, ?_⟩) (by assumption) ?_
      rotate_left 1
      · intro wz _
        go_simp
        all_goals with_reducible rfl
      simp only [Act.put, List.setIfInBounds_toArray, List.set_cons_zero, List.set_cons_succ, List.getElem_toArray, List.getElem_cons_zero, List.getElem_cons_succ]
      refine wpAnyL_takeS (i := 19) (v := ?_) rfl (by kernel_rfl) (by kernel_rfl) (by kernel_rfl) (by kernel_rfl) (fun _ _ _ h => h) (Or.inl ⟨by rfl, ?_⟩) (by assumption) ?_
      rotate_left 1
      · intro wz _
        go_simp
        all_goals with_reducible rfl
      simp only [Act.put, List.setIfInBounds_toArray, List.set_cons_zero, List.set_cons_succ, List.getElem_toArray, List.getElem_cons_zero, List.getElem_cons_succ]
      refine wpAnyL_takeS (i := 20) (v := ?_) rfl (by kernel_rfl) (by kernel_rfl) (by kernel_rfl) (by kernel_rfl) (fun _ _ _ h => h) (Or.inl ⟨by rfl, ?_⟩) (by assumption) ?_
      rotate_left 1
      · intro wz _
        go_simp
        all_goals with_reducible rfl
      simp only [Act.put, List.setIfInBounds_toArray, List.set_cons_zero, List.set_cons_succ, List.getElem_toArray, List.getElem_cons_zero, List.getElem_cons_succ]
      refine wpAnyL_take [26, 27] (i := 21) (v := ?_) rfl (by kernel_rfl) (by kernel_rfl) (by kernel_rfl) (by kernel_rfl) (fun _ _ _ h => h) (Or.inl ⟨by rfl, ?_⟩) (by assumption) ?_
      rotate_left 1
      · intro wz sb
        obtain ⟨y0, y1, y2, y3, y4, y5, y6⟩ := HT.out wz sb.2
        go_simp
        all_goals with_reducible rfl
      simp only [Act.put, List.setIfInBounds_toArray, List.set_cons_zero, List.set_cons_succ, List.getElem_toArray, List.getElem_cons_zero, List.getElem_cons_succ]
      refine wpAnyL_takeS (i := 22) (v := ?_) rfl (by kernel_rfl) (by kernel_rfl) (by kernel_rfl) (by kernel_rfl) (fun _ _ _ h => h) (Or.inl ⟨by rfl, ?_⟩) (by assumption) ?_
      rotate_left 1
      · intro wz _
        go_simp
        all_goals with_reducible rfl
      simp only [Act.put, List.setIfInBounds_toArray, List.set_cons_zero, List.set_cons_succ, List.getElem_toArray, List.getElem_cons_zero, List.getElem_cons_succ]
      refine wpAnyL_takeS (i := 23) (v := ?_) rfl (by kernel_rfl) (by kernel_rfl) (by kernel_rfl) (by kernel_rfl) (fun _ _ _ h => h) (Or.inl ⟨by rfl, ?_⟩) (by assumption) ?_
      rotate_left 1
      · intro wz _
        go_simp
        all_goals with_reducible rfl
      simp only [Act.put, List.setIfInBounds_toArray, List.set_cons_zero, List.set_cons_succ, List.getElem_toArray, List.getElem_cons_zero, List.getElem_cons_succ]
      refine wpAnyL_takeS (i := 24) (v := ?_) rfl (by kernel_rfl) (by kernel_rfl) (by kernel_rfl) (by kernel_rfl) (fun _ _ _ h => h) (Or.inl ⟨by rfl, ?_⟩) (by assumption) ?_
      rotate_left 1
      · intro wz _
        go_simp
        all_goals with_reducible rfl
      simp only [Act.put, List.setIfInBounds_toArray, List.set_cons_zero, List.set_cons_succ, List.getElem_toArray, List.getElem_cons_zero, List.getElem_cons_succ]
      refine wpAnyL_take [26, 27] (i := 25) (v := ?_) rfl (by kernel_rfl) (by kernel_rfl) (by kernel_rfl) (by kernel_rfl) (fun _ _ _ h => h) (Or.inl ⟨by rfl, ?_⟩) (by assumption) ?_
      rotate_left 1
      · intro wz sb
        obtain ⟨y0, y1, y2, y3, y4, y5, y6⟩ := HT.out wz sb.2
        go_simp
        all_goals with_reducible rfl
      simp only [Act.put, List.setIfInBounds_toArray, List.set_cons_zero, List.set_cons_succ, List.getElem_toArray, List.getElem_cons_zero, List.getElem_cons_succ]
      refine wpAnyL_takeS (i := 26) (v := ?_) rfl (by kernel_rfl) (by kernel_rfl) (by kernel_rfl) (by kernel_rfl) (fun _ _ _ h => h) (Or.inl ⟨by rfl, ?_⟩) (by assumption) ?_
      rotate_left 1
      · intro wz _
        go_simp
        all_goals with_reducible rfl
      simp only [Act.put, List.setIfInBounds_toArray, List.set_cons_zero, List.set_cons_succ, List.getElem_toArray, List.getElem_cons_zero, List.getElem_cons_succ]
      refine wpAnyL_ready (rs := [27]) (by kernel_rfl) (by simp) (AllReadyL.last rfl (by kernel_rfl) (fun Q hQ => ?_) AllReadyL.nil)
      go_simp
      refine (HS.out _ hHeld.2).mono ?_
      rintro e W2 ⟨rfl, K3, h1, h2, h3, h4⟩
      have H1 := hideIt h1
      have H2 := hideIt h2
      have H4 := hideIt h4
      refine hQ.out _ _ trivial (fun _ => ?_)
      clear hQ Q h1 h2 h4 hHeld HS HT
      refine wpAnyL_done (by kernel_rfl) ?_ _
      go_wp2
      go_roundw
      case rel => exact ⟨j + 1, K3, by omega, by go_num, H1.out, H2.out, h3, H4.out⟩
      case measure => simp [intOf]; omega
    · have hjn2 : j = S.n := by omega
      have hnl : ¬ (j : Int) < (S.n : Int) := by omega
      have HR : Hid (DoTold 7 w0 K S W Send wr) := by
        rw [HRd.out]
        have h1 := HP.out
        have h2 := HPl.out
        rw [hjn2] at h1 h2
        exact ⟨K2, h1, h2, by omega, HF.out⟩
      clear hjn2 HP HPl HF
      go_wp2
      go_end0
      exact ⟨rfl, HR.out⟩
end
end Go.Proofs.YtncnojgemmcplaaGreatDoor.St.Dc
