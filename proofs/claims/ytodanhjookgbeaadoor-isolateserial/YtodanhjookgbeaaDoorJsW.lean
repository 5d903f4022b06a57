/-
  The document's StorySerial, walked.
-/
import Derived.Test.YtodanhjookgbeaaDoorIlWZ
namespace Go.Proofs.YtodanhjookgbeaaDoor
open Go.RowKit

/-- What the document's StorySerial tells. -/
def DsTold (s : ISt) (w : World) (e : Ending) (w' : World) : Prop :=
  ∃ v ok, e = .returned (.tuple #[v, .bool ok]) ∧ ((oG (serR s) = 0 ∧ ok = true ∧ HasI w' v ((natI (oL (serR s))).filter (comI s))) ∨ (oG (serR s) = 11 ∧ ok = false)) ∧ Below w.heap.size w w'
theorem natI_at {L : List Nat} {k : Nat} (h : k < (natI L).length) : ∃ h' : k < L.length, (natI L)[k] = (L[k] : Int) := ⟨by simpa [natI] using h, by simp [natI]⟩

set_option maxRecDepth 100000 in
set_option maxHeartbeats 4000000 in
theorem dSerial_any (s : ISt) (ok : IOk s) (hn0 : 0 < s.txs.length) (a b : Option Addr) (ca cb : Nat) (w : World) (h : StyQ w a ca b cb s) :
    Calls Tryd.prog 17 #[.agg #[.slice a s.txs.length ca, .slice b s.ord.length cb]] w fun e w' => DsTold s w e w' := by
  have HS := hideIt h
  have h8 := ok.few
  have HB : Hid (Below w.heap.size w (w.alloc (.cells #[.slice a s.txs.length ca, .slice b s.ord.length cb] 28))) := belA (Below.refl _ _) _
  obtain ⟨c0, c1⟩ := box2 w (.slice a s.txs.length ca) (.slice b s.ord.length cb) 28
  have HEg := hideIt (dEdges_any s ok a b ca cb _ (h.below HB.out))
  unfold EdgTold at HEg
  have hne : ((s.txs.length : Int) == 0) = false := by rw [beq_eq_false_iff_ne]; omega
  have hRl : (serR s).length = s.txs.length := matN_len _ _
  have hck : ckG (serR s) = 0 := matN_ok (by omega) _
  have HOk : Hid (∀ L, ordG (gB (serR s)) (serR s).length (serR s).length = some L → oG (serR s) = 0 ∧ oL (serR s) = L ∧ L.length ≤ 8 ∧ ∀ k (h : k < L.length), L[k] < s.txs.length) := fun L hL => by
    refine ⟨by unfold oG; rw [if_pos hck, hL]; rfl, by unfold oL; rw [if_pos hck, hL]; rfl, ?_, ?_⟩
    · have := (ordG_ok hL).1; omega
    · intro k hk
      have := (ordG_ok hL).2.lt _ (List.getElem_mem hk)
      omega
  have HNo : Hid (ordG (gB (serR s)) (serR s).length (serR s).length = none → oG (serR s) = 11) := fun hL => by unfold oG; rw [if_pos hck, hL]; rfl
  clear h ok
  go_enter Tryd.func17, Tryd.ntmps17
  go_wp2_with fail
  generalize hW : w.alloc _ = W at HB c0 c1 HEg ⊢
  have HWs : Hid (w.heap.size < W.heap.size) := World.block_lt_of_cell? W _ c0
  clear hW
  refine HEg.out.mono ?_
  rintro e w1 ⟨v1, v2, v3, rfl, hr1, hr2, hr3, hb1⟩
  clear HEg
  obtain ⟨a1, p1, rfl, _, _⟩ := id hr1
  obtain ⟨a2, p2, rfl, _, _⟩ := id hr2
  obtain ⟨a3, p3, rfl, _, _⟩ := id hr3
  have d0 := (hb1.cell (p := ⟨w.heap.size, 0, none⟩) HWs.out).trans c0
  have hbA : Below w1.heap.size w1 (w1.alloc (.cells #[.slice a1 s.txs.length p1, .slice a2 s.txs.length p2, .slice a3 s.txs.length p3] 33)) := belA (Below.refl _ _) _
  have HEi := hideIt (either_any s.txs.length (by omega) 3 (by omega) (by omega) (fun j => if j = 0 then .slice a1 s.txs.length p1 else if j = 1 then .slice a2 s.txs.length p2 else .slice a3 s.txs.length p3) (edgG s) w1.heap.size (w1.alloc (.cells #[.slice a1 s.txs.length p1, .slice a2 s.txs.length p2, .slice a3 s.txs.length p3] 33)) (fun j hj => by
    rw [cell_of_row _ _ _ _ 33 _ (heap_alloc_new w1 _)]
    match j, hj with
    | 0, _ => rfl
    | 1, _ => rfl
    | 2, _ => rfl) (fun j hj => by
    match j, hj with
    | 0, _ => exact hr1.below hbA
    | 1, _ => exact hr2.below hbA
    | 2, _ => exact hr3.below hbA))
  rw [orN_three] at HEi
  have HB1 := hideIt (belJ (belJ HB.out hb1) hbA)
  have HBW := hideIt (belJ hb1 hbA)
  clear hr1 hr2 hr3 hb1 hbA
  go_wp2_with fail
  refine HEi.out.mono ?_
  rintro e w2 ⟨v4, rfl, hr4, hb2⟩
  obtain ⟨a4, cap4, rfl, hg4⟩ := grQ_readN hr4
  have HOr := hideIt (rOrder_any (serR s) hck a4 cap4 w2 hg4)
  unfold GoTold at HOr
  rw [hRl] at HOr
  have HB2 := hideIt (belJ HB1.out hb2)
  have HBW2 := hideIt (belJ HBW.out hb2)
  clear hr4 hb2 hg4 HEi HB1 HBW d0
  rw [hRl] at HOk HNo
  generalize ordG (gB (serR s)) s.txs.length s.txs.length = od at *
  go_wp2_with fail
  refine HOr.out.mono ?_
  rintro e w3 ⟨v5, okb, rfl, hrow, hb3⟩
  have HB3 := hideIt (belJ HB2.out hb3)
  have HBW3 := hideIt (belJ HBW2.out hb3)
  clear HOr HB2 HBW2 hb3
  rcases hrow with ⟨L, rfl, rfl, hrow⟩ | ⟨rfl, rfl, rfl⟩
  · obtain ⟨o1, o2, o3, o4⟩ := HOk.out L rfl
    have HO1 := hideIt o1
    have HO2 := hideIt o2
    have HO4 := hideIt o4
    have hLl : (natI L).length ≤ 8 := by unfold natI; rw [List.length_map]; exact o3
    have HRd := hideIt hrow.hasI
    obtain ⟨a5, cap5, rfl, hc5, _⟩ := hrow.hasI
    clear hrow o1 o2 o4 HOk HNo
    go_wp2
    go_loopw [9, 33] (fun v c wr => ∃ p : Nat, p ≤ (natI L).length ∧ c = .int .i64 p ∧ RowAt wr w3.heap.size v (((natI L).take p).filter (comI s)) ∧ Below w3.heap.size w3 wr) (fun _ c _ => (natI L).length - (intOf c).toNat)
    case atStart => exact ⟨0, by omega, rfl, rowAt_nil _ _, Below.refl _ _⟩
    case round =>
      obtain ⟨p, hp, rfl, hrw, hb⟩ := hrel
      have HRw := hideIt hrw
      have HBr := hideIt hb
      clear hrw hb
      by_cases hpl : p < (natI L).length
      · have hpl' : (p : Int) < (natI L).length := by omega
        obtain ⟨aq, cq, eq, _, hq⟩ := HRd.out.below HBr.out
        injection eq with eq1 _ eq3
        subst eq1 eq3
        obtain ⟨g, off, rfl, x0⟩ := hq p hpl
        obtain ⟨hp', hpe⟩ := natI_at hpl
        have htn := HO4.out p hp'
        have HTk : Hid (((natI L).take (p + 1)).filter (comI s) = ((natI L).take p).filter (comI s) ++ if comI s (L[p] : Int) then [(L[p] : Int)] else []) := by
          show _ = _
          rw [List.take_add_one, List.filter_append, List.getElem?_eq_getElem hpl, hpe]
          by_cases hc : comI s (L[p] : Int) <;> simp [hc]
        rw [hpe] at x0
        generalize L[p] = t at *
        have htn' : (t : Int) < s.txs.length := by omega
        obtain ⟨gx, ox, rfl, hgx, oa, oc, o1, o2, o3', o4', o5⟩ := HS.out.tx htn
        have hco : comI s (t : Int) = s.txs[t].com := by unfold comI; rw [txI_at htn]
        have x2 := ((belJ HB3.out HBr.out).cell (p := ⟨gx, ox + t * 2 + 1, none⟩) hgx).trans o5
        rw [← hco] at x2
        have e0 := ((belJ HBW3.out HBr.out).cell (p := ⟨w.heap.size, 0, none⟩) HWs.out).trans c0
        clear hq o1 o2 o4' o5 hco
        generalize comI s (t : Int) = ct at *
        have hfl : (((natI L).take p).filter (comI s)).length ≤ 8 := Nat.le_trans (List.length_filter_le _ _) (by rw [List.length_take]; omega)
        generalize ((natI L).take p).filter (comI s) = xs at *
        cases ct
        · have HT2 : Hid (((natI L).take (p + 1)).filter (comI s) = xs) := by rw [HTk.out]; simp [Hid]
          clear HTk
          go_wp2
          go_roundw
          case rel => exact ⟨p + 1, by omega, by go_num, by rw [HT2.out]; exact HRw.out, HBr.out⟩
          case measure => simp [intOf]; omega
        · have HT2 : Hid (((natI L).take (p + 1)).filter (comI s) = xs ++ [(t : Int)]) := by rw [HTk.out]; simp [Hid]
          clear HTk
          obtain ⟨va, vc, rfl⟩ := HRw.out.slice
          have hbA : Below wr.heap.size wr (wr.alloc (.cells #[.int .i64 (t : Int)] 3)) := belA (Below.refl _ _) _
          have HRow2 := hideIt (HRw.out.belowR hbA)
          have HBr2 := hideIt (belJ HBr.out hbA)
          have hsz := HBr.out.size
          have hnc := box1 wr (.int .i64 (t : Int)) 3
          clear hbA
          go_wp2_with (at_builtin; refine wpList_append_row rfl _ _ rfl w3.heap.size _ xs rfl HRow2.out wr.heap.size 1 (t : Int) rfl ?c1 ?c2 ?c3 ?_)
          case c2 => omega
          case c3 => first | omega | (simp; omega)
          intro v' w4 ht
          have HG2 : Hid (RowAt w4 w3.heap.size v' (((natI L).take (p + 1)).filter (comI s))) := by
            rw [HT2.out]; exact ht.row
          have HG3 : Hid (Below w3.heap.size w3 w4) := HBr2.out.grown ht.grown (by simp; omega) (fun k hk => (HRow2.out.lt k hk).1)
          clear ht
          go_wp2
          go_roundw
          case rel => exact ⟨p + 1, by omega, by go_num, HG2.out, HG3.out⟩
          case measure => simp [intOf]; omega
      · obtain rfl : p = (natI L).length := by omega
        have HFi : Hid (DsTold s w (.returned (.tuple #[u9, .bool true])) wr) := ⟨_, true, rfl, .inl ⟨HO1.out, rfl, by have := HRw.out.hasI; rw [List.take_length] at this; rw [HO2.out]; exact this⟩, belJ HB3.out HBr.out⟩
        clear HRw
        go_wp2
        go_ret2
        exact HFi.out
  · have HFi : Hid (∀ v, DsTold s w (.returned (.tuple #[v, .bool false])) w3) := fun v => ⟨v, false, rfl, .inr ⟨HNo.out rfl, rfl⟩, HB3.out⟩
    clear HOk HNo
    go_wp2
    go_loopw [9, 33] (fun v c wr => c = .int .i64 0 ∧ wr = w3) (fun _ c _ => 0)
    case atStart => exact ⟨rfl, rfl⟩
    case round =>
      obtain ⟨rfl, rfl⟩ := hrel
      go_wp2
      go_ret2
      exact HFi.out _
end Go.Proofs.YtodanhjookgbeaaDoor
