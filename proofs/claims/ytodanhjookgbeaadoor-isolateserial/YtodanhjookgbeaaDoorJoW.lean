/-
  The statements' own story, walked: a story copied.
-/
import Derived.Test.YtodanhjookgbeaaDoorJoMZ
import Derived.Test.YtodanhjookgbeaaDoorIaW
namespace Go.Proofs.YtodanhjookgbeaaDoor
open Go.RowKit

theorem two_set {w : World} {g : Nat} {t : TypeId} {x y : Value} (h : w.heap[g]? = some (.cells #[x, y] t (0, 0))) (x' y' : Value) : ((w.setCell ⟨g, 0, none⟩ x').setCell ⟨g, 1, none⟩ y').heap[g]? = some (.cells #[x', y'] t (0, 0)) := by
  have h1 := heap_setCell_same w g 0 _ t x' h
  have h2 := heap_setCell_same _ g 1 _ t y' h1
  rw [h2]
  simp
theorem two_load {w : World} {g : Nat} {t : TypeId} {x y : Value} (h : w.heap[g]? = some (.cells #[x, y] t (0, 0))) : (loadVar 28 ⟨g, 0, none⟩).run Tryd.prog w = .ok (.agg #[x, y]) w :=
  run_loadVar_mid w g 0 28 [x, y] _ (fun j v hv => by rw [Nat.zero_add, cell_of_row _ _ _ _ t _ h]; simpa using hv) Tryd.underlying28 rfl (by kernel_rfl)
/-- How long a story's lists may be. -/
structure StyZ (s : ISt) : Prop where
  txs : s.txs.length * 32 ≤ 140737488355328
  ops : ∀ k (h : k < s.txs.length), s.txs[k].ops.length * 32 ≤ 140737488355328
  ord : s.ord.length * 24 ≤ 140737488355328
def StoTold (s : ISt) (w : World) (e : Ending) (w' : World) : Prop :=
  ∃ a ca b cb ok, e = .returned (.tuple #[.agg #[.slice a s.txs.length ca, .slice b s.ord.length cb], .bool ok]) ∧ StyQ w' a ca b cb s ∧ Below w.heap.size w w'

set_option maxRecDepth 100000 in
set_option maxHeartbeats 8000000 in
theorem story_any (s : ISt) (hz : StyZ s) (a b : Option Addr) (ca cb : Nat) (w : World) (h : StyQ w a ca b cb s) :
    Calls Tryd.prog 6 #[.agg #[.slice a s.txs.length ca, .slice b s.ord.length cb]] w fun e w' => StoTold s w e w' := by
  have HS := hideIt h
  have HZ := hideIt hz
  have htm := h.tmax
  have hom := h.omax
  unfold maxLen at htm hom
  obtain ⟨c0, c1⟩ := box2 w (.slice a s.txs.length ca) (.slice b s.ord.length cb) 25
  have HB : Hid (Below w.heap.size w (w.alloc (.cells #[.slice a s.txs.length ca, .slice b s.ord.length cb] 25))) := belA (Below.refl _ _) _
  obtain ⟨W0, hW0⟩ : ∃ W0, W0 = w.alloc (.cells #[.slice a s.txs.length ca, .slice b s.ord.length cb] 25) := ⟨_, rfl⟩
  have hs0 : W0.heap.size = w.heap.size + 1 := by rw [hW0]; simp
  have HSt : Hid (StoS ((W0.alloc (.cells #[.slice none 0 0, .slice none 0 0] 28)).alloc (.cells #[.slice none 0 0, .slice none 0 0] 28)) W0 (w.heap.size + 1) (w.heap.size + 1 + 1) (w.heap.size + 1 + 1 + 1) (.slice none 0 0) (.slice none 0 0) [] [] []) := by
    refine ⟨?_, ?_, World.ownsRow_nil _ _ _ _, rfl, fun k h1 _ => absurd h1 (by simp), World.ownsRow_nil _ _ _ _, belA (belA (Below.refl _ _) _) _, by omega, by omega, by omega, by simp; omega⟩
    · have := heap_alloc_new (W0.alloc (.cells #[.slice none 0 0, .slice none 0 0] 28)) (.cells #[.slice none 0 0, .slice none 0 0] 28)
      rw [World.size_alloc, hs0] at this
      exact this
    · have := heap_alloc_new W0 (.cells #[.slice none 0 0, .slice none 0 0] 28)
      rw [hs0] at this
      exact (Below.heap_alloc _ _ _ (by simp; omega)).trans this
  rw [← hW0] at c0 c1 HB
  go_enter Tryd.func6, Tryd.ntmps6
  rw [hW0] at HSt
  have x1 := cellA (o := .cells #[.slice none 0 0, .slice none 0 0] 28) (cellA (o := .cells #[.slice none 0 0, .slice none 0 0] 28) (hW0 ▸ c1))
  go_upto_region 3 with fail
  generalize hW : (World.alloc (World.alloc _ _) _) = W at HSt x1 ⊢
  rw [← hW0] at HSt
  clear hW x1
  have HWs : Hid (w.heap.size < W0.heap.size) := by show _ < _; omega
  have HBs : Hid (w.heap.size + 1 + 1 + 1 = W0.heap.size + 1 + 1) := by show _ = _; omega
  clear hW0 hs0 hz h
  go_wp2
  go_loopw [5, 6] (fun x c wr => ∃ (N : Int) (i : Nat) (v : Value) (ps : List (Value × Bool)), i ≤ s.txs.length ∧ x = .int .i64 N ∧ c = .int .i64 i ∧ StoS wr W0 (w.heap.size + 1) (w.heap.size + 1 + 1) (w.heap.size + 1 + 1 + 1) v (.slice none 0 0) ps (s.txs.take i) []) (fun _ c _ => s.txs.length - (intOf c).toNat)
  case atStart => exact ⟨_, 0, _, [], by omega, rfl, rfl, HSt.out⟩
  case round =>
    clear HSt
    obtain ⟨N, i, v, ps, hi, rfl, rfl, hst⟩ := hrel
    have HSt := hideIt hst
    clear hst
    have e0 := (HSt.out.bel.cell (p := ⟨w.heap.size, 0, none⟩) HWs.out).trans c0
    have e1 := (HSt.out.bel.cell (p := ⟨w.heap.size, 1, none⟩) HWs.out).trans c1
    by_cases hil : i < s.txs.length
    · have hil' : (i : Int) < s.txs.length := by omega
      obtain ⟨g, off, rfl, hg, oa, oc, o1, o2, o3, o4, o5⟩ := HS.out.tx hil
      have HOq := hideIt o4
      have hzo := HZ.out.ops i hil
      have HTk : Hid (s.txs.take (i + 1) = s.txs.take i ++ [s.txs[i]]) := List.take_succ_eq_append_getElem hil
      have hto : s.txs[i].ops.length ≤ 2 ^ 63 - 1 := o3
      have hg0 : g < W0.heap.size := by have := HWs.out; omega
      have HBw : Hid (Below w.heap.size w wr) := belJ HB.out HSt.out.bel
      have t1 := (HBw.out.cell (p := ⟨g, off + i * 2, none⟩) hg).trans o1
      have t2 := (HBw.out.cell (p := ⟨g, off + i * 2 + 1, none⟩) hg).trans o5
      generalize s.txs[i] = T at *
      clear o1 o2 o3 o4 o5
      obtain ⟨ops, com⟩ := T
      dsimp only at *
      have hbX : Below wr.heap.size wr (wr.alloc (.cells #[.slice none 0 0, .bool com] 62)) := belA (Below.refl _ _) _
      have hX7 := heap_alloc_new wr (.cells #[.slice none 0 0, .bool com] 62)
      have hc : ∀ {q j : Nat} {u : Value}, wr.cell? ⟨q, j, none⟩ = some u → (wr.alloc (.cells #[.slice none 0 0, .bool com] 62)).cell? ⟨q, j, none⟩ = some u := fun {q j u} hq => cellA hq
      have e0a := cellA (o := .cells #[.slice none 0 0, .bool false] 62) e0
      have t2a := cellA (o := .cells #[.slice none 0 0, .bool false] 62) t2
      have e0x := hc e0
      have t1x := hc t1
      have HX7 := hideIt hX7
      have HbX := hideIt hbX
      clear hc hbX hX7 e1
      go_upto_region 8 with fail
      generalize hX : World.alloc wr _ = X at HX7 HbX e0x t1x ⊢
      clear hX e0a t2a
      go_wp2
      go_loopw [8] (fun c wz => ∃ (k : Nat) (vt : Value), k ≤ ops.length ∧ c = .int .i64 k ∧ wz.heap[wr.heap.size]? = some (.cells #[vt, .bool com] 62 (0, 0)) ∧ OpR wz (wr.heap.size + 1) vt (ops.take k) ∧ Below wr.heap.size wr wz) (fun c _ => ops.length - (intOf c).toNat)
      case atStart => exact ⟨0, _, by omega, rfl, HX7.out, World.ownsRow_nil _ _ _ _, HbX.out⟩
      case round =>
        clear HX7 HbX e0x t1x
        rename World => wz
        obtain ⟨k, vt, hk, rfl, h7, hop, hbz⟩ := hrel
        have H7 := hideIt h7
        have HOp := hideIt hop
        have HBz := hideIt hbz
        have f0 := (hbz.cell (p := ⟨w.heap.size, 0, none⟩) (World.block_lt_of_cell? _ _ e0)).trans e0
        have s1 := (hbz.cell (p := ⟨g, off + i * 2, none⟩) (World.block_lt_of_cell? _ _ t1)).trans t1
        have h70 : wz.cell? ⟨_, 0, none⟩ = some vt := cell_of_row _ _ _ _ 62 _ h7
        have h71 : wz.cell? ⟨_, 1, none⟩ = some (.bool com) := cell_of_row _ _ _ _ 62 _ h7
        have hlt7 := lt_of_heap h7
        obtain ⟨va, vc, hvt⟩ := ownsRow_slice hop
        subst hvt
        clear h7 hop hbz
        by_cases hkl : k < ops.length
        · have hkl' : (k : Int) < ops.length := by omega
          obtain ⟨g4, off4, rfl, hg4, p1, p2, p3, p4⟩ := (HOq.out.below (belJ HBw.out HBz.out)).at hkl
          have HTo : Hid (ops.take (k + 1) = ops.take k ++ [ops[k]]) := List.take_succ_eq_append_getElem hkl
          have hlk : (ops.take k).length = k := by rw [List.length_take]; omega
          rw [hlk] at h70 H7 HOp
          generalize ops[k] = o at *
          obtain ⟨owr, okey, ofrm, onum⟩ := o
          dsimp only at *
          obtain ⟨Y, hY⟩ : ∃ Y, Y = (wz.alloc (.cells #[.bool owr, .int .i64 okey, .int .i64 ofrm, .int .i64 onum] 67)).alloc (.cells #[.bool owr, .int .i64 okey, .int .i64 ofrm, .int .i64 onum] 68) := ⟨_, rfl⟩
          have hbY : Below wz.heap.size wz Y := by rw [hY]; exact belA (belA (Below.refl _ _) _) _
          have hsY : Y.heap.size = wz.heap.size + 1 + 1 := by rw [hY]; simp
          have hYo : IOpAt Y (wz.heap.size + 1) 0 ⟨owr, okey, ofrm, onum⟩ := by
            have e : Y.heap[wz.heap.size + 1]? = some (.cells #[.bool owr, .int .i64 okey, .int .i64 ofrm, .int .i64 onum] 68 (0, 0)) := by
              have := heap_alloc_new (wz.alloc (.cells #[.bool owr, .int .i64 okey, .int .i64 ofrm, .int .i64 onum] 67)) (.cells #[.bool owr, .int .i64 okey, .int .i64 ofrm, .int .i64 onum] 68)
              rw [World.size_alloc] at this
              rw [hY]; exact this
            exact ⟨cell_of_row _ _ _ _ 68 _ e, cell_of_row _ _ _ _ 68 _ e, cell_of_row _ _ _ _ 68 _ e, cell_of_row _ _ _ _ 68 _ e⟩
          have hOY : OpR Y (wr.heap.size + 1) (.slice va k vc) (ops.take k) := ownsRow_same HOp.out fun b hb => hbY.block b (ownsRow_block HOp.out b hb).2.1
          obtain ⟨v', w', hr, ho', hg', hob⟩ := run_appO hOY hYo (by omega) (by rw [hlk]; omega) 60
          have h7' : w'.heap[wr.heap.size]? = some (.cells #[.slice va k vc, .bool com] 62 (0, 0)) := (hg'.block _ (by omega) (fun e => by have := (ownsRow_block hOY _ e.symm).1; omega)).trans ((hbY.block _ hlt7).trans H7.out)
          have H7n : Hid ((w'.setCell ⟨wr.heap.size, 0, none⟩ v').heap[wr.heap.size]? = some (.cells #[v', .bool com] 62 (0, 0))) := by
            rw [heap_setCell_same w' wr.heap.size 0 _ 62 _ h7']; rfl
          have HOn : Hid (OpR (w'.setCell ⟨wr.heap.size, 0, none⟩ v') (wr.heap.size + 1) v' (ops.take (k + 1))) := by
            rw [HTo.out]
            exact ownsRow_same ho' fun b hb => Below.heap_setCell w' ⟨wr.heap.size, 0, none⟩ v' b (by have := (ownsRow_block ho' b hb).1; show b ≠ wr.heap.size; omega)
          have hbw' : Below wr.heap.size wr w' := (belJ HBz.out hbY).grown hg' (by omega) (fun b hb => by have := (ownsRow_block hOY b hb).1; omega)
          have HBn : Hid (Below wr.heap.size wr (w'.setCell ⟨wr.heap.size, 0, none⟩ v')) := hbw'.setCell (p := ⟨wr.heap.size, 0, none⟩) (Nat.le_refl _) _
          have z0 : w'.cell? ⟨wr.heap.size, 0, none⟩ = some (.slice va k vc) := cell_of_row _ _ _ _ 62 _ h7'
          have z1 := frozen_of_row w' wr.heap.size 0 _ 62 h7'
          have HR := hideIt hr
          obtain ⟨na, nc, hv'⟩ := ownsRow_slice ho'
          subst hv'
          have hl2 : (ops.take k ++ [(⟨owr, okey, ofrm, onum⟩ : IOp)]).length = k + 1 := by rw [List.length_append, hlk]; rfl
          rw [hl2] at H7n HOn HBn HR
          rw [hY] at HR
          have r0 : ((wz.alloc (.cells #[.bool owr, .int .i64 okey, .int .i64 ofrm, .int .i64 onum] 67))).cell? ⟨wr.heap.size, 0, none⟩ = some (.slice va k vc) := cellA h70
          clear hl2 hlk hY hbY hsY hYo hOY hr ho' hg' hob h7' hbw' HTo
          go_upto_region 13 with fail
          go_wp2_with (at_builtin; refine wpList_append_run _ rfl _ _ 60 rfl _ _ _ w' rfl rfl HR.out ?_)
          go_roundw
          case rel => exact ⟨k + 1, _, by omega, by go_num, H7n.out, HOn.out, HBn.out⟩
          case measure => simp [intOf]; omega
        · obtain rfl : k = ops.length := by omega
          rw [List.take_length] at HOp h70 H7
          obtain ⟨Y, hY⟩ : ∃ Y, Y = wz.alloc (.cells #[.slice va ops.length vc, .bool com] 62) := ⟨_, rfl⟩
          have hbY : Below wz.heap.size wz Y := by rw [hY]; exact belA (Below.refl _ _) _
          have hsY : Y.heap.size = wz.heap.size + 1 := by rw [hY]; simp
          have hY7 : Y.heap[wz.heap.size]? = some (.cells #[.slice va ops.length vc, .bool com] 62 (0, 0)) := by rw [hY]; exact heap_alloc_new wz _
          have hSY := (HSt.out.below HBz.out).below hbY
          have hOY : OpR Y (wr.heap.size + 1) (.slice va ops.length vc) ops := ownsRow_same HOp.out fun b hb => hbY.block b (ownsRow_block HOp.out b hb).2.1
          obtain ⟨xa, xc, hvx⟩ := ownsRow_slice hSY.tx
          subst hvx
          have hpl : ps.length = i := by have := hSY.len; rw [List.length_take] at this; omega
          have hzt := HZ.out.txs
          obtain ⟨v', w', hr, ho', hg', hob⟩ := run_appT (p := (.slice va ops.length vc, com)) rfl hSY.tx (cell_of_row _ _ _ _ 62 _ hY7) (cell_of_row _ _ _ _ 62 _ hY7) hSY.le (by rw [hpl]; omega) 26
          obtain ⟨hS2, hbw'⟩ := hSY.addT (t := ⟨ops, com⟩) hOY (by have := HSt.out.le; omega) rfl hg' ho'
          have hout := (hg'.block _ (lt_of_heap hSY.out) (fun e => by have := (ownsRow_block hSY.tx _ e.symm).1; omega)).trans hSY.out
          have z0 : w'.cell? ⟨w.heap.size + 1 + 1, 0, none⟩ = some (.slice xa ps.length xc) := cell_of_row _ _ _ _ 28 _ hout
          have z1 := frozen_of_row w' (w.heap.size + 1 + 1) 0 _ 28 hout
          have q0 : wz.cell? ⟨w.heap.size + 1 + 1, 0, none⟩ = some (.slice xa ps.length xc) := cell_of_row _ _ _ _ 28 _ (HSt.out.below HBz.out).out
          obtain ⟨na, nc, hv'⟩ := ownsRow_slice ho'
          subst hv'
          have hl2 : (ps ++ [((.slice va ops.length vc : Value), com)]).length = i + 1 := by rw [List.length_append, hpl]; rfl
          rw [hl2] at hS2 hr
          rw [← HTk.out] at hS2
          rw [hpl] at z0 q0 hr
          have HS2 := hideIt hS2
          have HR := hideIt hr
          rw [hY] at HR
          clear hY hbY hsY hY7 hSY hOY hr ho' hg' hob hS2 hbw' hout hl2 hpl HTk
          go_upto_region 14 with fail
          go_wp2_with (at_builtin; refine wpList_append_run _ rfl _ _ 26 rfl _ _ _ w' rfl rfl HR.out ?_)
          go_roundw
          case rel => exact ⟨_, i + 1, _, _, by omega, rfl, by go_num, HS2.out⟩
          case measure => simp [intOf]; omega
    · obtain rfl : i = s.txs.length := by omega
      rw [List.take_length] at HSt
      go_wp2
      go_loopw [5, 10] (fun x c wz => ∃ (N : Int) (k : Nat) (u : Value) (vs : List Value), k ≤ s.ord.length ∧ x = .int .i64 N ∧ c = .int .i64 k ∧ vs.length = k ∧ StoS wz W0 (w.heap.size + 1) (w.heap.size + 1 + 1) (w.heap.size + 1 + 1 + 1) v u ps s.txs vs ∧ ∀ j (h1 : j < vs.length) (h2 : j < s.ord.length), ∃ a cap, vs[j] = .slice a s.ord[j].length cap ∧ s.ord[j].length ≤ cap ∧ s.ord[j].length ≤ maxLen ∧ IntsQ w a s.ord[j]) (fun _ c _ => s.ord.length - (intOf c).toNat)
      case atStart => exact ⟨_, 0, _, [], by omega, rfl, rfl, rfl, HSt.out, fun j h1 _ => absurd h1 (by simp)⟩
      case round =>
        clear HSt e0 e1
        obtain ⟨N2, k, u, vs, hk, rfl, rfl, hvl, hst, hrw⟩ := hrel
        rename World => wz
        have HSt := hideIt hst
        have HRw := hideIt hrw
        clear hst hrw
        have e1 := (HSt.out.bel.cell (p := ⟨w.heap.size, 1, none⟩) HWs.out).trans c1
        by_cases hkl : k < s.ord.length
        · have hkl' : (k : Int) < s.ord.length := by omega
          obtain ⟨gb, ob, rfl, hgb, la, lc, l1, l2, l3, l4⟩ := HS.out.row hkl
          have HRn : Hid (∀ j (h1 : j < (vs ++ [(.slice la s.ord[k].length lc : Value)]).length) (h2 : j < s.ord.length), ∃ a cap, (vs ++ [(.slice la s.ord[k].length lc : Value)])[j] = .slice a s.ord[j].length cap ∧ s.ord[j].length ≤ cap ∧ s.ord[j].length ≤ maxLen ∧ IntsQ w a s.ord[j]) := fun j h1 h2 => by
            by_cases e : j < vs.length
            · rw [List.getElem_append_left e]
              exact HRw.out j e h2
            · have ej : j = vs.length := by simp at h1; omega
              rw [List.getElem_append_right (by omega)]
              subst ej
              simp only [Nat.sub_self, List.getElem_cons_zero]
              simp only [hvl]
              exact ⟨la, lc, rfl, l2, l3, l4⟩
          have l1z := ((belJ HB.out HSt.out.bel).cell (p := ⟨gb, ob + k, none⟩) hgb).trans l1
          have hll : s.ord[k].length ≤ 2 ^ 63 - 1 := l3
          generalize s.ord[k].length = Ll at *
          clear l1 l2 l3 l4 HRw
          obtain ⟨Y, hY⟩ : ∃ Y, Y = (wz.alloc (.cells #[.slice la Ll lc] 54)).drew := ⟨_, rfl⟩
          have hbY : Below wz.heap.size wz Y := by rw [hY]; exact (belA (Below.refl _ _) _).drew
          have hY7 : Y.heap[wz.heap.size]? = some (.cells #[.slice la Ll lc] 54 (0, 0)) := by rw [hY]; exact heap_alloc_new wz _
          have hSY := HSt.out.below hbY
          obtain ⟨xa, xc, hvx⟩ := ownsRow_slice hSY.ls
          subst hvx
          have hzt := HZ.out.ord
          obtain ⟨v', w', hr, ho', hg', hob⟩ := run_appR (x := .slice la Ll lc) rfl hSY.ls (cell_of_row _ _ _ _ 54 _ hY7) hSY.le (by rw [hvl]; omega) 23
          obtain ⟨hS2, hbw'⟩ := hSY.addL hg' ho'
          have hout := (hg'.block _ (lt_of_heap hSY.out) (fun e => by have := (ownsRow_block hSY.ls _ e.symm).1; omega)).trans hSY.out
          have z0 : w'.cell? ⟨w.heap.size + 1 + 1, 1, none⟩ = some (.slice xa vs.length xc) := cell_of_row _ _ _ _ 28 _ hout
          have z1 := frozen_of_row w' (w.heap.size + 1 + 1) 1 _ 28 hout
          have q0 : wz.cell? ⟨w.heap.size + 1 + 1, 1, none⟩ = some (.slice xa vs.length xc) := cell_of_row _ _ _ _ 28 _ HSt.out.out
          have hle := HSt.out.le
          have hn1 : ¬ w.heap.size + 1 + 1 = wz.heap.size := by omega
          have hn2 : ¬ w.heap.size = wz.heap.size := by omega
          have hn3 : ¬ gb = wz.heap.size := by omega
          have hn4 : ¬ wz.heap.size = w.heap.size + 1 + 1 := by omega
          have hn5 : ¬ wz.heap.size = w.heap.size := by omega
          have hn6 : ¬ wz.heap.size = gb := by omega
          obtain ⟨na, nc, hv'⟩ := ownsRow_slice ho'
          subst hv'
          have hl2 : (vs ++ [(.slice la Ll lc : Value)]).length = k + 1 := by rw [List.length_append, hvl]; rfl
          have HL2 := hideIt hl2
          rw [hl2] at hS2 hr
          rw [hvl] at z0 q0 hr
          have HS2 := hideIt hS2
          have HR := hideIt hr
          rw [hY] at HR
          clear hY hbY hY7 hSY hr ho' hg' hob hS2 hbw' hout hl2 hle
          have q0a := cellA (o := .cells #[.slice la Ll lc] 54) q0
          have e1a := cellA (o := .cells #[.slice la Ll lc] 54) e1
          have l1a := cellA (o := .cells #[.slice la Ll lc] 54) l1z
          go_upto_region 19 with fail
          go_region_law (refine step_append_run (by rfl) _ _ 23 (by rfl) _ _ _ w' (by rfl) (by rfl) HR.out ?_)
          all_goals
            go_wp2
            go_roundw
            case rel => exact ⟨_, k + 1, _, _, by omega, rfl, by go_num, HL2.out, HS2.out, HRn.out⟩
            case measure => simp [intOf]; omega
        · obtain rfl : k = s.ord.length := by omega
          obtain ⟨a', ca', hv⟩ := ownsRow_slice HSt.out.tx
          obtain ⟨b', cb', hu⟩ := ownsRow_slice HSt.out.ls
          subst hv hu
          have hpl : ps.length = s.txs.length := HSt.out.len
          obtain ⟨Z, hZ⟩ : ∃ Z, Z = (wz.setCell ⟨w.heap.size + 1, 0, none⟩ (.slice a' ps.length ca')).setCell ⟨w.heap.size + 1, 1, none⟩ (.slice b' vs.length cb') := ⟨_, rfl⟩
          have hset : ∀ b, b ≠ w.heap.size + 1 → Z.heap[b]? = wz.heap[b]? := fun b hb => by
            rw [hZ]
            exact (Below.heap_setCell _ ⟨w.heap.size + 1, 1, none⟩ _ b hb).trans (Below.heap_setCell _ ⟨w.heap.size + 1, 0, none⟩ _ b hb)
          have hbZ : Below w.heap.size w Z := by
            rw [hZ]
            exact ((belJ HB.out HSt.out.bel).setCell (p := ⟨w.heap.size + 1, 0, none⟩) (Nat.le_succ _) _).setCell (p := ⟨w.heap.size + 1, 1, none⟩) (Nat.le_succ _) _
          obtain ⟨a2, ca2, ev, hca, hta⟩ := txR_q (w := Z) (ownsRow_same HSt.out.tx fun b hb => hset b (by have := (ownsRow_block HSt.out.tx b hb).1; omega)) HSt.out.len fun k h1 h2 => ⟨ownsRow_same (HSt.out.ops k h1 h2).1 fun b hb => hset b (by have := (ownsRow_block (HSt.out.ops k h1 h2).1 b hb).1; omega), (HSt.out.ops k h1 h2).2, by
            obtain ⟨_, _, _, _, _, _, _, _, h3, _, _⟩ := HS.out.tx h2
            exact h3⟩
          obtain ⟨b2, cb2, eu, hcb, htb⟩ := lsR_q (w := Z) (ownsRow_same HSt.out.ls fun b hb => hset b (by have := (ownsRow_block HSt.out.ls b hb).1; omega)) hvl fun k h1 h2 => by
            obtain ⟨a, cap, r1, r2, r3, r4⟩ := HRw.out k h1 h2
            exact ⟨a, cap, r1, r2, r3, r4.below hbZ⟩
          injection ev with ev1 _ ev3
          injection eu with eu1 _ eu3
          subst ev1 ev3 eu1 eu3
          have HQ : Hid (StyQ Z a' ca' b' cb' s) := ⟨hta, hca, HS.out.tmax, htb, hcb, HS.out.omax⟩
          have HRs := hideIt (two_set HSt.out.res (.slice a' ps.length ca') (.slice b' vs.length cb'))
          rw [← hZ] at HRs
          have HbZ := hideIt hbZ
          have d0 : wz.cell? ⟨w.heap.size + 1 + 1, 0, none⟩ = some (.slice a' ps.length ca') := cell_of_row _ _ _ _ 28 _ HSt.out.out
          have d1 : wz.cell? ⟨w.heap.size + 1 + 1, 1, none⟩ = some (.slice b' vs.length cb') := cell_of_row _ _ _ _ 28 _ HSt.out.out
          have r0 : wz.cell? ⟨w.heap.size + 1, 0, none⟩ = some (.slice none 0 0) := cell_of_row _ _ _ _ 28 _ HSt.out.res
          have r1 : wz.cell? ⟨w.heap.size + 1, 1, none⟩ = some (.slice none 0 0) := cell_of_row _ _ _ _ 28 _ HSt.out.res
          have g0 := frozen_of_row wz (w.heap.size + 1) 0 _ 28 HSt.out.res
          have g1 := frozen_of_row wz (w.heap.size + 1) 1 _ 28 HSt.out.res
          rw [hpl] at d0 hZ HRs
          rw [hvl] at d1 hZ HRs
          have HZe := hideIt hZ
          clear hset hbZ hta htb hca hcb HSt HRw hpl hvl hZ
          go_wp2
          rw [← HZe.out]
          refine bodyPost_ret (results_two rfl _ _ _ _ rfl (two_load HRs.out)) rfl ?_
          exact ⟨a', ca', b', cb', _, rfl, HQ.out, HbZ.out⟩
end Go.Proofs.YtodanhjookgbeaaDoor
