/-
  The document's search: walked.
-/
import Derived.Test.YtkbjaneekblgmaaGreatDoorAtPZ
import Derived.Test.YtkbjaneekblgmaaGreatDoorDoWZ
import Derived.Deep.RegionHeld3
import Derived.Deep.DeepCutAuto
import Derived.Deep.RegionLaw
namespace Go.Proofs.YtkbjaneekblgmaaGreatDoor
open Go.RowKit

def stA (vs : Nat → Value) : Array Value := #[vs 0, vs 1, vs 2, vs 3, vs 4, vs 5, vs 6, vs 7]
theorem stA_at (vs : Nat → Value) (q : Nat) (hq : q < 8) : (stA vs)[q]? = some (vs q) := by
  match q, hq with
  | 0, _ | 1, _ | 2, _ | 3, _ | 4, _ | 5, _ | 6, _ | 7, _ => rfl
theorem stA_set (vs : Nat → Value) (q : Nat) (hq : q < 8) (x : Value) : (stA vs).setIfInBounds q x = stA (setV vs q x) := by
  match q, hq with
  | 0, _ | 1, _ | 2, _ | 3, _ | 4, _ | 5, _ | 6, _ | 7, _ => rfl

/-- What the search tells. -/
def ATold (p : Par) (sm : Bool) (w : World) (S : Int → List Int) (vs : Nat → Value) (ov : Value) (R : Res) (e : Ending) (w' : World) : Prop :=
  e = .returned (.int .i64 (R.code : Int)) ∧ ∃ ov', FndAt p sm w' R.ord S vs ov' R.ent ∧ VFr p ov w ov' w'

/-- What stands at the head of each round. -/
def RndAt (p : Par) (sm : Bool) (w : World) (f : Nat) (ord : List Nat) (S : Int → List Int) (vs : Nat → Value) (ov : Value) (R : Res) (k : Nat) (wr : World) : Prop :=
  ∃ ov' ent', FndAt p sm wr ord S vs ov' ent' ∧ VFr p ov w ov' wr ∧ wr.heap[w.heap.size]? = some (.cells (stA vs) 46 (0, 0)) ∧ ent'.length ≤ p.bud ∧ R = loopM p.srD (visitM p.srD f) S ord ((List.range p.ops.length).drop k) ent'
theorem Below.drew_left {w w' : World} (h : Below w.drew.heap.size w.drew w') : Below w.heap.size w w' := ⟨h.os, h.tape, h.output, h.size, h.block⟩
theorem free_mayK (c : Sr) (ord : List Nat) (n : Nat) : mayK c ord n c.ops.length = freeB c ord n := rfl
theorem step_free {c : Sr} {S : Int → List Int} {ord : List Nat} {n : Nat} (h : freeB c ord n = false) : stepN c S ord n = none := by unfold stepN; rw [h]; rfl

/-- What Step gave, in three variables. -/
def StV (w : World) (r : Option (List Int × Int)) (a b c : Value) (w' : World) : Prop :=
  Below w.heap.size w w' ∧ match r with
  | none => c = .bool false ∧ a = .slice none 0 0 ∧ b = .int .i64 0
  | some (st, n) => b = .int .i64 n ∧ c = .bool true ∧ RowAt w' w.heap.size a st

def tellR (xe xr : Int) (sr : Option (List Int × Int)) : Option (List Int) := match sr with
  | none => none
  | some (st, r) => if decide (xe < 0) || xr == r then some st else none

theorem itoa_callD (n : Int) (h : I64 n) (w : World) (hp : PowAt w) : Calls Tryz.prog 35 #[.int .i64 n] w fun e w' => e = .returned (.string ⟨(Lib.itoa n).toArray⟩) ∧ Below w.heap.size w w' := by
  unfold I64 at h
  refine (sh_strconv_Itoa n (by omega) (by omega) w hp).mono ?_
  rintro e w' ⟨rfl, k, os, rfl⟩
  refine ⟨rfl, rfl, rfl, rfl, by simp [Go.Sort.grow, World.drewN], fun k hk => ?_⟩
  simp only [Go.Sort.grow, World.drewN]
  rw [Array.getElem?_append_left hk]
theorem bcat (a b : List UInt8) : ((⟨a.toArray⟩ : ByteArray) ++ (⟨b.toArray⟩ : ByteArray)) = ⟨(a ++ b).toArray⟩ := by
  apply ByteArray.ext
  simp
theorem bcat1 (a : List UInt8) (c : UInt8) : ((⟨a.toArray⟩ : ByteArray) ++ (⟨#[c]⟩ : ByteArray)) = ⟨(a ++ [c]).toArray⟩ := bcat a [c]
theorem run_index_arr {P : Program} {w : World} (t e : TypeId) (n : Nat) (cs : Array Value) (i : Nat) (x : Value) (h : P.underlying t = some (.array n e)) (hi : i < n) (hs : (sizeOf e).run P w = .ok 1 w) (hx : cs[i]? = some x) (hag : (isAgg e).run P w = .ok false w) :
    (Instr.index t (.agg cs) (.int .i64 (i : Int))).run P w = .ok x w := by
  have hn : (0 ≤ (i : Int) ∧ (i : Int) < (n : Int)) := by omega
  simp [Instr.index, run_underlying h, asIntOf, hn, go_sem]
  rw [if_pos hi, hs]
  simp [hag, hx]

set_option maxRecDepth 100000 in
set_option maxHeartbeats 8000000 in
theorem at_any (p : Par) (sm : Bool) (hp : ParOK p) (hah : p.ah = ahB sm) : ∀ (f : Nat) (ord : List Nat) (S : Int → List Int) (vs : Nat → Value) (ov : Value) (ent : List (List UInt8)) (w : World), FndAt p sm w ord S vs ov ent → Reach p.srD ord S → f + ord.length = p.ops.length + 1 → ent.length ≤ p.bud →
    Calls Tryz.prog 22 #[.pointer (some ⟨p.B, 0, none⟩), .int .u64 (maskN ord), .agg (stA vs)] w fun e w' => ATold p sm w S vs ov (visitM p.srD f S ord ent) e w' := by
  intro f
  induction f with
  | zero => intro ord S vs ov ent w _ hR hf; have := reach_length hR; have : ord.length ≤ p.ops.length := this; omega
  | succ f ih =>
    intro ord S vs ov ent w h hR hf hbud
    have hRB := reach_srB hR
    have hro := reach_ord hp hRB
    have b1 : w.cell? ⟨p.B, 1, none⟩ = some p.u := fblk_cell h.blk 1
    obtain ⟨ua, ucap, hu, hcap, humax, hops⟩ := h.ops
    rw [hu] at b1
    have hBl := lt_of_heap h.blk
    have hlen := hp.len
    have HC : Hid (∀ k, (hk : k < p.ops.length) → ∃ b off, ua = some ⟨b, off, none⟩ ∧ b < p.b0 ∧ ∀ wr, Below p.b0 w wr → OpAt wr b (off + k * 8) (opN p.ops k)) := fun k hk => by
      rcases hops with e | ⟨b, off, rfl, hb, ho⟩
      · rw [e] at hk; simp at hk
      · have hb0 : b < p.b0 := h.opsb ⟨b, off, none⟩ _ _ hu (by omega)
        exact ⟨b, off, rfl, hb0, fun wr hW => by rw [opN_at hk]; exact (ho k hk).below hb0 hW⟩
    have HBG : Hid (∀ wr, w.grownBy wr none → Below p.b0 w wr) := hideIt (fun wr hW => ⟨hW.os, hW.tape, hW.output, hW.size, fun k hk => hW.block k (by have := h.lo; omega) (by simp)⟩)
    have HBIT := hideIt (done_bit hro.1)
    have HH := hideIt h
    have HU := hideIt hu
    clear hops h hu
    unfold stA
    go_enter Tryz.func22, Tryz.ntmps22
    go_wp2_with fail
    go_loopw [7, 30] (fun a i wr => ∃ k : Nat, k ≤ p.ops.length ∧ a = .bool (overK p.ops ord k) ∧ i = .int .i64 k ∧ (w.alloc (.cells (stA vs) 46)).grownBy wr none) (fun _ i _ => p.ops.length - (intOf i).toNat)
    case atStart => exact ⟨0, by omega, rfl, rfl, grown_refl _ _⟩
    case round =>
      obtain ⟨k, hk, rfl, rfl, hg⟩ := hrel
      have HG := hideIt hg
      clear hg
      by_cases hkl : k < p.ops.length
      · obtain ⟨b, off, rfl, hb0, hc⟩ := HC.out k hkl
        obtain ⟨c0, c1, c2, c3, c4, c5, c6, c7⟩ := hc _ (HBG.out _ ((World.grownBy_alloc w _ none).trans HG.out))
        have hbl : b < wr.heap.size := World.block_lt_of_cell? wr _ c0
        obtain ⟨x, hx⟩ : ∃ x, opN p.ops k = x := ⟨_, rfl⟩
        rw [hx] at c0 c1 c2 c3 c4 c5 c6 c7
        have HX := hideIt hx
        clear hx hc
        have k1 : (0 : Int) ≤ (k : Int) := by omega
        have k2 : (k : Int) < (p.ops.length : Int) := by omega
        have hwr : IntKind.i64.wrap ((k : Int) + 1) = (k : Int) + 1 := by rw [IntKind.wrap_i64]; omega
        have hbit := HBIT.out k
        have HS := hideIt (overK_succ p.ops ord k)
        rw [HX.out] at HS
        cases ho : overK p.ops ord k
        · rw [ho] at HS
          clear hbit ho
          go_wp2
          go_roundw
          case rel => exact ⟨k + 1, by omega, by rw [HS.out]; rfl, by go_num, HG.out.trans (World.grownBy_alloc _ _ _)⟩
          case measure => simp [intOf]; omega
        · rw [ho] at HS
          cases hcn : ord.contains k
          · rw [hcn] at hbit HS
            simp only [Bool.false_eq_true, if_false, Bool.or_false, Bool.true_and] at hbit HS
            go_wp2
            go_roundw
            case rel => exact ⟨k + 1, by omega, by rw [HS.out], by go_num, HG.out.trans (World.grownBy_alloc _ _ _)⟩
            case measure => simp [intOf]; omega
          · rw [hcn] at hbit HS
            simp only [if_true, Bool.or_true, Bool.and_true] at hbit HS
            go_wp2
            go_roundw
            case rel => exact ⟨k + 1, by omega, by rw [HS.out], by go_num, HG.out.trans (World.grownBy_alloc _ _ _)⟩
            case measure => simp [intOf]; omega
      · obtain rfl : k = p.ops.length := by omega
        have HO : Hid (overK p.ops ord p.ops.length = overB p.ops ord) := hideIt rfl
        rw [HO.out]
        cases hov : overB p.ops ord
        · have hgw := (World.grownBy_alloc w (.cells (stA vs) 46) none).trans HG.out
          have h1 := HH.out.grown hgw
          have hT : wr.heap[w.heap.size]? = some (.cells (stA vs) 46 (0, 0)) := (HG.out.block w.heap.size (by simp) (by simp)).trans (heap_alloc_new w _)
          have HT := hideIt hT
          have HFU := hideIt (formatUint_any (maskN ord) (maskN_lt (fun m hm => by have := hro.1 m hm; omega)) wr h1.deb)
          have HT8 : Hid (∀ W, Below wr.heap.size wr W → W.cell? ⟨w.heap.size, 0, none⟩ = some (vs 0) ∧ W.cell? ⟨w.heap.size, 1, none⟩ = some (vs 1) ∧ W.cell? ⟨w.heap.size, 2, none⟩ = some (vs 2) ∧ W.cell? ⟨w.heap.size, 3, none⟩ = some (vs 3) ∧ W.cell? ⟨w.heap.size, 4, none⟩ = some (vs 4) ∧ W.cell? ⟨w.heap.size, 5, none⟩ = some (vs 5) ∧ W.cell? ⟨w.heap.size, 6, none⟩ = some (vs 6) ∧ W.cell? ⟨w.heap.size, 7, none⟩ = some (vs 7)) := hideIt (fun W hW => by
            have e := (hW.block w.heap.size (lt_of_heap hT)).trans hT
            have c : ∀ i, W.cell? ⟨w.heap.size, i, none⟩ = (stA vs)[i]? := fun i => cell_of_row W _ _ _ 46 (0, 0) e
            exact ⟨c 0, c 1, c 2, c 3, c 4, c 5, c 6, c 7⟩)
          have H1 := hideIt h1
          have HGW := hideIt hgw
          clear h1 hgw hT
          rename World => W1
          have HI64 : Hid (∀ k : Nat, ∀ x ∈ S k, I64 x) := hideIt (fun k x hx => reach_i64 hp hRB k x hx)
          have HLEN : Hid (∀ k : Nat, k ≤ 8 → (d16 (maskN ord) ++ keysD Lib.itoa S (List.range k)).length ≤ 50000 ∧ ∀ j, (rowD Lib.itoa ((S k).take j)).length ≤ 2000) := hideIt (fun k hk => by
            have h1 := d16_length64 (maskN_lt (ord := ord) (fun m hm => by have := hro.1 m hm; omega))
            have h2 := keysD_length (S := S) (n := 61) (fun q => ⟨reach_i64 hp hRB q, by have := reach_len hRB q; have := hro.2; omega⟩) (List.range k)
            refine ⟨by rw [List.length_append]; simp at h2; omega, fun j => ?_⟩
            have h3 := rowD_length (st := (S k).take j) (fun x hx => reach_i64 hp hRB k x (List.mem_of_mem_take hx))
            have h4 := reach_len hRB (k : Int)
            have h5 : ((S k).take j).length ≤ (S k).length := by simp; omega
            omega)
          go_wp2_with (go_at_call 34; refine HFU.out.mono ?_; rintro e w1 ⟨rfl, hb1⟩; obtain ⟨t0, t1, t2, t3, t4, t5, t6, t7⟩ := HT8.out w1 hb1; have HB1 := hideIt hb1; clear hb1)
          go_loopw [10, 53] (fun a i wx => ∃ k : Nat, k ≤ 8 ∧ a = .string ⟨(d16 (maskN ord) ++ keysD Lib.itoa S (List.range k)).toArray⟩ ∧ i = .int .i64 k ∧ Below W1.heap.size W1 wx) (fun _ i _ => 8 - (intOf i).toNat)
          case atStart => exact ⟨0, by omega, by simp [keysD], rfl, HB1.out⟩
          case round =>
            obtain ⟨k, hk8, rfl, rfl, hbx⟩ := hrel
            have HBX := hideIt hbx
            clear hbx t0 t1 t2 t3 t4 t5 t6 t7
            rename World => W2
            by_cases hkk : k < 8
            · have hrow := H1.out.rows k hkk
              obtain ⟨sa, sl, sc, hsv⟩ := hrow.slice
              have hidx : ∀ W, (Instr.index 46 (.agg #[vs 0, vs 1, vs 2, vs 3, vs 4, vs 5, vs 6, vs 7]) (.int .i64 k)).run Tryz.prog W = .ok (.slice sa sl sc) W := fun W => run_index_arr 46 24 8 _ k _ Tryz.underlying46 hkk (Tryz.sizeOf24 W) (by rw [← hsv]; exact stA_at vs k hkk) (Tryz.isAgg24 W)
              have hkw : IntKind.i64.wrap ((k : Int) + 1) = (k : Int) + 1 := by rw [IntKind.wrap_i64]; omega
              have hd8 : decide ((k : Int) < 8) = true := by simp; omega
              obtain ⟨pre, hpre⟩ : ∃ pre, d16 (maskN ord) ++ keysD Lib.itoa S (List.range k) = pre := ⟨_, rfl⟩
              obtain ⟨hpl, hrl⟩ := HLEN.out k (by omega)
              rw [hpre] at hpl ⊢
              obtain ⟨st, hst⟩ : ∃ st, S (k : Int) = st := ⟨_, rfl⟩
              have h64 := HI64.out k
              rw [hst] at hrl hrow h64
              have HROW : Hid (∃ sb so, sl = st.length ∧ st.length ≤ sc ∧ (0 < st.length → sa = some ⟨sb, so, none⟩ ∧ ∀ W, Below W1.heap.size W1 W → ∀ j, (hj : j < st.length) → W.cell? ⟨sb, so + j, none⟩ = some (.int .i64 st[j]))) := hideIt (by
                rw [hsv] at hrow
                rcases hrow with ⟨e1, e2⟩ | ⟨g, off, cap, cur, e1, _, hg, h1, _, _, h5⟩
                · simp at e1
                  subst e2
                  exact ⟨0, 0, e1.2.1, by simp, fun h => by simp at h⟩
                · simp at e1
                  obtain ⟨rfl, rfl, rfl⟩ := e1
                  exact ⟨g, off, rfl, h1, fun _ => ⟨rfl, fun W hW j hj => (hW.cell (p := ⟨g, off + j, none⟩) (lt_of_heap hg)).trans (h5 j hj)⟩⟩)
              obtain ⟨sb, so, rfl, hsc, hcell⟩ := HROW.out
              have HCELL := hideIt hcell
              have HPW : Hid (∀ W, Below W1.heap.size W1 W → PowAt W) := hideIt (fun W hW => pow_below H1.out.pow (by have := H1.out.lo; have := H1.out.b0pos; omega) hW)
              have hstl : st.length ≤ 100 := by
                have h4 := reach_len hRB (k : Int)
                rw [hst] at h4
                have := hro.2
                omega
              have HPRE := hideIt hpre
              have HST := hideIt hst
              have HRL := hideIt hrl
              have H64 := hideIt h64
              clear hcell HROW hrow hsv hpre hst hrl h64
              go_wp2_with fail
              go_loopw [10, 60] (fun a i wx => ∃ j : Nat, j ≤ st.length ∧ a = .string ⟨(pre ++ [59] ++ rowD Lib.itoa (st.take j)).toArray⟩ ∧ i = .int .i64 j ∧ Below W1.heap.size W1 wx) (fun _ i _ => st.length - (intOf i).toNat)
              case atStart => exact ⟨0, by omega, by rw [bcat1]; simp [rowD], rfl, HBX.out⟩
              case round =>
                obtain ⟨j, hjl, rfl, rfl, hby⟩ := hrel
                have HBY := hideIt hby
                clear hby
                by_cases hjj : j < st.length
                · obtain ⟨rfl, hcc⟩ := HCELL.out (by omega)
                  have cj := hcc wr HBY.out j hjj
                  clear hcc
                  have j1 : (0 : Int) ≤ (j : Int) := by omega
                  have j2 : (j : Int) < (st.length : Int) := by omega
                  have hjw : IntKind.i64.wrap ((j : Int) + 1) = (j : Int) + 1 := by rw [IntKind.wrap_i64]; omega
                  obtain ⟨x, hx⟩ : ∃ x, st[j] = x := ⟨_, rfl⟩
                  rw [hx] at cj
                  have hx64 : I64 x := by rw [← hx]; exact H64.out _ (List.getElem_mem hjj)
                  have hil := itoa_length hx64
                  have hl2 := HRL.out j
                  obtain ⟨cur, hcur⟩ : ∃ cur, pre ++ [59] ++ rowD Lib.itoa (st.take j) = cur := ⟨_, rfl⟩
                  have hcl : cur.length ≤ 60000 := by rw [← hcur]; simp only [List.length_append, List.length_cons, List.length_nil]; omega
                  obtain ⟨it, hit⟩ : ∃ it, Lib.itoa x = it := ⟨_, rfl⟩
                  rw [hit] at hil
                  have HIC : Hid (Calls Tryz.prog 35 #[.int .i64 x] wr fun e w' => e = .returned (.string ⟨it.toArray⟩) ∧ Below wr.heap.size wr w') := hideIt (by rw [← hit]; exact itoa_callD x hx64 wr (HPW.out wr HBY.out))
                  have HNX : Hid (pre ++ [59] ++ rowD Lib.itoa (st.take (j + 1)) = cur ++ (it ++ [32])) := hideIt (by
                    rw [List.take_succ_eq_append_getElem hjj, hx]
                    have e : rowD Lib.itoa (st.take j ++ [x]) = rowD Lib.itoa (st.take j) ++ (Lib.itoa x ++ [32]) := by simp [rowD]
                    rw [e, ← List.append_assoc, hcur, hit])
                  rw [hcur]
                  clear hcur hit hl2 hx64 hx
                  go_wp2_with (go_at_call 35; refine HIC.out.mono ?_; rintro e w3 ⟨rfl, hb3⟩; have HB3 := hideIt hb3; clear hb3)
                  go_roundw
                  case rel => exact ⟨j + 1, by omega, by rw [HNX.out, bcat1, bcat], by go_num, belJ HBY.out HB3.out⟩
                  case measure => simp [intOf]; omega
                · obtain rfl : j = st.length := by omega
                  have HNX : Hid (d16 (maskN ord) ++ keysD Lib.itoa S (List.range (k + 1)) = pre ++ [59] ++ rowD Lib.itoa (st.take st.length)) := hideIt (by
                    rw [List.take_length, ← HPRE.out, ← HST.out]
                    simp [keysD, List.range_succ])
                  go_wp2_with fail
                  go_roundw
                  case rel => exact ⟨k + 1, by omega, by rw [HNX.out], by go_num, HBY.out⟩
                  case measure => simp [intOf]; omega
            · obtain rfl : k = 8 := by omega
              rw [show ((8 : Nat) : Int) = 8 from rfl]
              obtain ⟨nm, hnm⟩ : ∃ nm, d16 (maskN ord) ++ keysD Lib.itoa S (List.range 8) = nm := ⟨_, rfl⟩
              have hnl : nm.length ≤ 100000 := by rw [← hnm]; have := (HLEN.out 8 (Nat.le_refl _)).1; omega
              have HNM : Hid (nameD Lib.itoa ord S = nm) := hideIt hnm
              rw [hnm]
              have h2 := H1.out.below HBX.out
              have hT2 : W2.heap[w.heap.size]? = some (.cells (stA vs) 46 (0, 0)) := (HBX.out.block w.heap.size (lt_of_heap HT.out)).trans HT.out
              have HT2 := hideIt hT2
              have HG2 : Hid (w.grownBy W2 none) := hideIt (HGW.out.trans (grown_below HBX.out))
              have m4 : W2.cell? ⟨p.B, 4, none⟩ = some (.map (some p.M)) := fblk_cell h2.blk 4
              have m3 : W2.cell? ⟨p.B, 3, none⟩ = some (.int .i64 p.bud) := fblk_cell h2.blk 3
              have hlook : (Instr.lookup 58 (.map (some p.M)) (.string ⟨nm.toArray⟩) false).run Tryz.prog W2 = .ok (.bool (ent.contains nm)) W2 := h2.set.look nm hnl
              have hlen4 : ∀ ty, (Builtin.len_ #[58] ty #[.map (some p.M)]).run Tryz.prog W2.drew = .ok (.int .i64 (ent.length : Int)) W2.drew := fun ty => (h2.set.same (w' := W2.drew) rfl).len ty
              have H2 := hideIt h2
              clear hnm h2 hT2 HT8 HFU HLEN HI64 HBX HT H1 HG HGW HB1
              obtain ⟨cb, hcon⟩ : ∃ cb, ent.contains nm = cb := ⟨_, rfl⟩
              rw [hcon] at hlook
              have HCON := hideIt hcon
              clear hcon
              cases cb
              · obtain ⟨eb, heb⟩ : ∃ eb, ((ent.length : Int) == (p.bud : Int)) = eb := ⟨_, rfl⟩
                have HEB := hideIt heb
                go_upto_region 22 with fail
                go_cut [86] (fun x wx => x = .bool eb ∧ wx = W2.drew)
                case first =>
                  go_region
                  all_goals
                    go_wp2_with fail
                    go_meet
                    exact ⟨by first | rfl | rw [HEB.out], rfl⟩
                case rest =>
                  obtain ⟨rfl, hwc⟩ := hcut
                  rw [hwc]
                  clear hwc heb hlook hlen4 m4 m3
                  cases eb
                  · have hne : ent.length ≠ p.bud := fun e => by have := HEB.out; rw [e] at this; simp at this
                    have HV0 : Hid (visitM p.srD (f + 1) S ord ent = loopM p.srD (visitM p.srD f) S ord (List.range p.ops.length) (nm :: ent)) := hideIt (by
                      conv => lhs; unfold visitM
                      rw [if_neg (show ¬ overB p.srD.ops ord = true by show ¬ overB p.ops ord = true; rw [hov]; decide), if_neg (show ¬ ent.contains (p.srD.nm ord S) = true by show ¬ ent.contains (nameD Lib.itoa ord S) = true; rw [HNM.out, HCON.out]; decide),
                        if_neg (show ¬ ent.length = p.srD.bud from hne)]
                      show loopM p.srD (visitM p.srD f) S ord (List.range p.ops.length) (nameD Lib.itoa ord S :: ent) = _
                      rw [HNM.out])
                    generalize hW3 : W2.drew = W3
                    have hg3 : W2.grownBy W3 none := by rw [← hW3]; exact grown_drew _ _
                    have h3 := H2.out.grown hg3
                    have hT3 : W3.heap[w.heap.size]? = some (.cells (stA vs) 46 (0, 0)) := (hg3.block w.heap.size (lt_of_heap HT2.out) (by simp)).trans HT2.out
                    have HG3 : Hid (w.grownBy W3 none) := hideIt (HG2.out.trans hg3)
                    obtain ⟨W4, hrun4, hset4, hg4⟩ := h3.set.store (by have := hp.bud; omega) nm hnl HCON.out
                    have m4 : W3.cell? ⟨p.B, 4, none⟩ = some (.map (some p.M)) := fblk_cell h3.blk 4
                    have hMne : p.B ≠ p.M := fun e => by
                      obtain ⟨es, clock, hm⟩ := h3.set.isMap
                      rw [← e, h3.blk] at hm; cases hm
                    have hv4 : VFr p ov W3 ov W4 := vfr_map hg4
                    have h4 : FndAt p sm W4 ord S vs ov (nm :: ent) := h3.turn hv4 ((hg4.block p.B (lt_of_heap h3.blk) (fun e => hMne (Option.some.inj e))).trans h3.blk) (h3.ordr.kept hg4 (by
                      rcases Classical.em (ov.ownBlock = none) with h0 | h0
                      · exact .inl h0
                      · refine .inr (fun e => ?_)
                        obtain ⟨_, _, cur, hc⟩ := ownsRow_block h3.ordr p.M e
                        obtain ⟨es, clock, hm⟩ := h3.set.isMap
                        rw [hc] at hm; cases hm)) hset4
                    have hT4 : W4.heap[w.heap.size]? = some (.cells (stA vs) 46 (0, 0)) := (hg4.block w.heap.size (lt_of_heap hT3) (fun e => by
                      obtain ⟨es, clock, hm⟩ := h3.set.isMap
                      rw [← Option.some.inj e, hT3] at hm; cases hm)).trans hT3
                    unfold strV at hrun4
                    have H4 := hideIt h4
                    have HV4 : Hid (VFr p ov w ov W4) := hideIt ((vfr_grown HG3.out).trans hv4)
                    have HT4 := hideIt hT4
                    have b14 : W4.cell? ⟨p.B, 1, none⟩ = some (.slice ua p.ops.length ucap) := by rw [← HU.out]; exact fblk_cell h4.blk 1
                    have HNE := hideIt hne
                    clear h3 hset4 hg4 hv4 h4 hT4 hT3 hg3 hW3 HG3 H2 HT2 HG2 HEB hne
                    go_wp2_with fail
                    clear hrun4 m4
                    go_loopw [97] (fun i wx => ∃ k : Nat, k ≤ p.ops.length ∧ i = .int .i64 k ∧ RndAt p sm w f ord S vs ov (visitM p.srD (f + 1) S ord ent) k wx) (fun i _ => p.ops.length - (intOf i).toNat)
                    case atStart => exact ⟨0, by omega, rfl, ov, nm :: ent, H4.out, HV4.out, HT4.out, by have := HNE.out; simp only [List.length_cons]; omega, by rw [HV0.out]; rfl⟩
                    case round =>
                      obtain ⟨k, hk, rfl, hrnd⟩ := hrel
                      obtain ⟨ov', ent', h7, hv7, hT7, hb7, hR7⟩ := hrnd
                      rename World => W7
                      have HR7 := hideIt hR7
                      have HV7 := hideIt hv7
                      have HT7 := hideIt hT7
                      clear hR7 hv7 hT7 b14 H4 HV4 HT4 HV0
                      by_cases hkl : k < p.ops.length
                      · obtain ⟨b, off, rfl, hb0, hc⟩ := HC.out k hkl
                        have HC0 : Hid (∀ j, (hj : j < p.ops.length) → ∀ W, Below W7.heap.size W7 W → OpAt W b (off + j * 8) (opN p.ops j)) := hideIt (fun j hj W hW => by
                          obtain ⟨b', off', e, _, hcj⟩ := HC.out j hj
                          simp at e
                          obtain ⟨rfl, rfl⟩ := e
                          have hlo := HH.out.lo
                          exact hcj W ((HV7.out.below HH.out.b0B HH.out.b0M (fun b e => (HH.out.ordr.lt b e).1) hlo).trans (hW.mono (by have := HV7.out.size; omega))))
                        obtain ⟨c0, c1, c2, c3, c4, c5, c6, c7⟩ := HC0.out k hkl W7 (Below.refl _ _)
                        have hbl : b < W7.heap.size := World.block_lt_of_cell? W7 _ c0
                        obtain ⟨q, hkq⟩ : ∃ q : Nat, (opN p.ops k).k = q := ⟨(opN p.ops k).k.toNat, by have := (hp.keys k hkl).1; omega⟩
                        have hq : q < 8 := by have := (hp.keys k hkl).2; omega
                        have HKQ := hideIt hkq
                        obtain ⟨⟨xp, xk, xd, xa, xb, xr, xc, xe⟩, hx⟩ : ∃ x, opN p.ops k = x := ⟨_, rfl⟩
                        rw [hx] at c0 c1 c2 c3 c4 c5 c6 c7 hkq
                        simp only at c0 c1 c2 c3 c4 c5 c6 c7 hkq
                        subst hkq
                        have HX := hideIt hx
                        clear hx hc
                        have k1 : (0 : Int) ≤ (k : Int) := by omega
                        have k2 : (k : Int) < (p.ops.length : Int) := by omega
                        have hkd : decide ((k : Int) < (p.ops.length : Int)) = true := by simp; omega
                        have hwr : IntKind.i64.wrap ((k : Int) + 1) = (k : Int) + 1 := by rw [IntKind.wrap_i64]; omega
                        have hbit : (bits .and .u64 ((maskN ord : Int) / 2 ^ k) 1 == 0) = mayK p.srD ord k 0 := by
                          rw [HBIT.out k, mayK_zero]
                          cases ord.contains k <;> rfl
                        have b17 : W7.cell? ⟨p.B, 1, none⟩ = some (.slice (some ⟨b, off, none⟩) p.ops.length ucap) := by rw [← HU.out]; exact fblk_cell h7.blk 1
                        have hB7 := lt_of_heap h7.blk
                        have H7 := hideIt h7
                        clear h7
                        have HAH : Hid (∀ W y, Below W7.heap.size W7 W → Calls Tryz.prog 36 #[.pointer (some ⟨p.B, 0, none⟩), y.agg, .agg #[.int .i64 xp, .int .i64 (q : Int), .int .i64 xd, .int .i64 xa, .int .i64 xb, .int .i64 xr, .int .i64 xc, .int .i64 xe]] W fun e w' => e = .returned (.bool (ahB sm y ⟨xp, q, xd, xa, xb, xr, xc, xe⟩)) ∧ Below W.heap.size W w') := hideIt (fun W y hW =>
                          ahead_any sm p.B y ⟨xp, q, xd, xa, xb, xr, xc, xe⟩ W ((hW.cell (p := ⟨p.B, 2, none⟩) hB7).trans (fblk_cell H7.out.blk 2)))
                        go_wp2_with fail
                        go_loopw [17, 112] (fun a i wx => ∃ j : Nat, j ≤ p.ops.length ∧ a = .bool (mayK p.srD ord k j) ∧ i = .int .i64 j ∧ Below W7.heap.size W7 wx ∧ OpAt wx W7.heap.size 0 ⟨xp, q, xd, xa, xb, xr, xc, xe⟩) (fun _ i _ => p.ops.length - (intOf i).toNat)
                        case atStart => exact ⟨0, by omega, rfl, rfl, belN _ _, opAt_new W7 ⟨xp, q, xd, xa, xb, xr, xc, xe⟩⟩
                        case round =>
                          obtain ⟨j, hj, rfl, rfl, hbj, hoj⟩ := hrel
                          have HBJ := hideIt hbj
                          have HOJ := hideIt hoj
                          obtain ⟨o0, o1, o2, o3, o4, o5, o6, o7⟩ := hoj
                          simp only [Nat.zero_add] at o0 o1 o2 o3 o4 o5 o6 o7
                          have hol : W7.heap.size < wr.heap.size := World.block_lt_of_cell? wr _ o0
                          clear hbj c0 c1 c2 c3 c4 c5 c6 c7 b17
                          by_cases hjl : j < p.ops.length
                          · obtain ⟨d0, d1, d2, d3, d4, d5, d6, d7⟩ := HC0.out j hjl wr HBJ.out
                            have hbl2 : b < wr.heap.size := World.block_lt_of_cell? wr _ d0
                            obtain ⟨⟨yp, yk, yd, ya, yb, yr, yc, ye⟩, hy⟩ : ∃ y, opN p.ops j = y := ⟨_, rfl⟩
                            rw [hy] at d0 d1 d2 d3 d4 d5 d6 d7
                            simp only at d0 d1 d2 d3 d4 d5 d6 d7
                            have j1 : (0 : Int) ≤ (j : Int) := by omega
                            have j2 : (j : Int) < (p.ops.length : Int) := by omega
                            have hjw : IntKind.i64.wrap ((j : Int) + 1) = (j : Int) + 1 := by rw [IntKind.wrap_i64]; omega
                            have HMS : Hid (mayK p.srD ord k (j + 1) = (mayK p.srD ord k j && (j == k || !ahB sm ⟨yp, yk, yd, ya, yb, yr, yc, ye⟩ ⟨xp, q, xd, xa, xb, xr, xc, xe⟩ || ord.contains j))) := hideIt (by
                              rw [mayK_succ]
                              show (mayK p.srD ord k j && (j == k || !p.ah (opN p.ops j) (opN p.ops k) || ord.contains j)) = _
                              rw [hy, HX.out, hah])
                            have hjb := HBIT.out j
                            have HNXT : Hid (∀ W, Below wr.heap.size wr W → Below W7.heap.size W7 W ∧ OpAt W W7.heap.size 0 ⟨xp, q, xd, xa, xb, xr, xc, xe⟩) := hideIt (fun W hW => ⟨belJ HBJ.out hW, HOJ.out.below hol hW⟩)
                            have HY := hideIt hy
                            clear hy
                            cases hm : mayK p.srD ord k j
                            · rw [hm] at HMS
                              clear hjb hm hbit
                              go_wp2
                              go_roundw
                              case rel => exact ⟨j + 1, by omega, by rw [HMS.out]; rfl, by go_num, HNXT.out _ (belN _ _)⟩
                              case measure => simp [intOf]; omega
                            · rw [hm] at HMS
                              by_cases hjk : j = k
                              · subst hjk
                                clear hjb hm hbit
                                go_wp2
                                go_roundw
                                case rel => exact ⟨j + 1, by omega, by rw [HMS.out]; simp, by go_num, HNXT.out _ (belN _ _)⟩
                                case measure => simp [intOf]; omega
                              · have hjk1 : ((j : Int) == (k : Int)) = false := by simp; omega
                                have hjk2 : (j == k) = false := by simp; omega
                                rw [hjk2] at HMS
                                cases hcj : ord.contains j
                                · rw [hcj] at hjb HMS
                                  simp only [Bool.false_eq_true, if_false] at hjb
                                  have HMS2 : Hid (mayK p.srD ord k (j + 1) = !ahB sm ⟨yp, yk, yd, ya, yb, yr, yc, ye⟩ ⟨xp, q, xd, xa, xb, xr, xc, xe⟩) := hideIt (by rw [HMS.out]; simp)
                                  clear hm hbit hcj HMS
                                  go_wp2_with (go_at_call 36; refine (HAH.out _ ⟨yp, yk, yd, ya, yb, yr, yc, ye⟩ (HNXT.out _ (belN _ _)).1).mono ?_; rintro e w9 ⟨rfl, hb9⟩; have HB9 := hideIt hb9; clear hb9)
                                  go_roundw
                                  case rel => exact ⟨j + 1, by omega, by rw [HMS2.out], by go_num, HNXT.out _ (belJ (belN _ _) HB9.out)⟩
                                  case measure => simp [intOf]; omega
                                · rw [hcj] at hjb HMS
                                  simp only [if_true] at hjb
                                  have HMS2 : Hid (mayK p.srD ord k (j + 1) = true) := hideIt (by rw [HMS.out]; simp)
                                  clear hm hbit hcj HMS
                                  go_wp2
                                  go_roundw
                                  case rel => exact ⟨j + 1, by omega, by rw [HMS2.out], by go_num, HNXT.out _ (belN _ _)⟩
                                  case measure => simp [intOf]; omega
                          · obtain rfl : j = p.ops.length := by omega
                            rw [show mayK p.srD ord k p.ops.length = freeB p.srD ord k from rfl]
                            cases hfr : freeB p.srD ord k
                            · have HXX : Hid (RndAt p sm w f ord S vs ov (visitM p.srD (f + 1) S ord ent) (k + 1) wr) := hideIt ⟨ov', ent', H7.out.below HBJ.out, HV7.out.trans (vfr_grown (grown_below HBJ.out)), (HBJ.out.block w.heap.size (lt_of_heap HT7.out)).trans HT7.out, hb7, by rw [HR7.out]; exact loopC_none (c := p.srD) hkl (step_free hfr)⟩
                              clear hfr hbit
                              go_wp2
                              go_roundw
                              case rel => exact ⟨k + 1, by omega, by go_num, HXX.out⟩
                              case measure => simp [intOf]; omega
                            · have HFR := hideIt hfr
                              clear hfr hbit
                              have h8 := H7.out.below HBJ.out
                              have hT8 : wr.heap[w.heap.size]? = some (.cells (stA vs) 46 (0, 0)) := (HBJ.out.block w.heap.size (lt_of_heap HT7.out)).trans HT7.out
                              have f0 : wr.cell? ⟨p.B, 0, none⟩ = some (.int .i64 p.o) := fblk_cell h8.blk 0
                              have tq : wr.cell? ⟨w.heap.size, q, none⟩ = some (vs q) := (cell_of_row wr _ _ _ 46 (0, 0) hT8).trans (stA_at vs q hq)
                              have q1 : (0 : Int) ≤ (q : Int) := by omega
                              have q2 : (q : Int) < 8 := by omega
                              have HSTEP : Hid (∀ W, wr.grownBy W none → Calls Tryz.prog 37 #[.int .i64 p.o, vs q, .int .i64 xd, .int .i64 xa, .int .i64 xb] W fun e w' => StepTold W (stepM p.o (S (q : Int)) xd xa xb) e w') := hideIt (fun W hW => refStep_any p.o xd xa xb (S (q : Int)) (vs q) W ((h8.grown hW).rows q hq).has (reach_rises hR (q : Int)) (by have := reach_len hRB (q : Int); have := hro.2; omega))
                              have HKEEP : Hid (∀ W, Below wr.heap.size wr W → W.cell? ⟨p.B, 0, none⟩ = some (.int .i64 p.o) ∧ W.cell? ⟨w.heap.size, q, none⟩ = some (vs q) ∧ W.cell? ⟨W7.heap.size, 1, none⟩ = some (.int .i64 (q : Int)) ∧ W.cell? ⟨W7.heap.size, 2, none⟩ = some (.int .i64 xd) ∧ W.cell? ⟨W7.heap.size, 3, none⟩ = some (.int .i64 xa) ∧ W.cell? ⟨W7.heap.size, 4, none⟩ = some (.int .i64 xb)) := hideIt (fun W hW =>
                                ⟨(hW.cell (p := ⟨p.B, 0, none⟩) (World.block_lt_of_cell? wr _ f0)).trans f0, (hW.cell (p := ⟨w.heap.size, q, none⟩) (World.block_lt_of_cell? wr _ tq)).trans tq, (hW.cell (p := ⟨W7.heap.size, 1, none⟩) hol).trans o1, (hW.cell (p := ⟨W7.heap.size, 2, none⟩) hol).trans o2, (hW.cell (p := ⟨W7.heap.size, 3, none⟩) hol).trans o3, (hW.cell (p := ⟨W7.heap.size, 4, none⟩) hol).trans o4⟩)
                              have H8 := hideIt h8
                              have HT8 := hideIt hT8
                              obtain ⟨sr, hsr⟩ : ∃ sr, stepM p.o (S (q : Int)) xd xa xb = sr := ⟨_, rfl⟩
                              have HSR := hideIt hsr
                              rw [hsr] at HSTEP
                              clear h8 hT8 hsr
                              go_upto_region 35 with fail
                              go_cut [20, 21, 22] (fun a b c wx => StV wr sr a b c wx)
                              case first =>
                                cases sr with
                                | none =>
                                  go_region_held3 (fun w' => w'.cell? ⟨p.B, 0, none⟩ = some (.int .i64 p.o) ∧ w'.cell? ⟨w.heap.size, q, none⟩ = some (vs q) ∧ w'.cell? ⟨W7.heap.size, 1, none⟩ = some (.int .i64 (q : Int)) ∧ w'.cell? ⟨W7.heap.size, 2, none⟩ = some (.int .i64 xd) ∧ w'.cell? ⟨W7.heap.size, 3, none⟩ = some (.int .i64 xa) ∧ w'.cell? ⟨W7.heap.size, 4, none⟩ = some (.int .i64 xb)) (go_keep) (first | (go_at_call 37; refine (HSTEP.out _ (grown_drew _ _)).mono ?_; rintro e w2 ⟨hb2, rfl⟩; have HBW := hideIt (Below.drew_left hb2); obtain ⟨p0, p1, p2, p3, p4, p5⟩ := HKEEP.out w2 HBW.out; clear hb2))
                                  all_goals
                                    go_wp2_with fail
                                    go_meet
                                    exact ⟨HBW.out, rfl, rfl, rfl⟩
                                | some pr =>
                                  obtain ⟨st, r⟩ := pr
                                  go_region_held3 (fun w' => w'.cell? ⟨p.B, 0, none⟩ = some (.int .i64 p.o) ∧ w'.cell? ⟨w.heap.size, q, none⟩ = some (vs q) ∧ w'.cell? ⟨W7.heap.size, 1, none⟩ = some (.int .i64 (q : Int)) ∧ w'.cell? ⟨W7.heap.size, 2, none⟩ = some (.int .i64 xd) ∧ w'.cell? ⟨W7.heap.size, 3, none⟩ = some (.int .i64 xa) ∧ w'.cell? ⟨W7.heap.size, 4, none⟩ = some (.int .i64 xb)) (go_keep) (first | (go_at_call 37; refine (HSTEP.out _ (grown_drew _ _)).mono ?_; rintro e w2 ⟨hb2, v2, rfl, hr2⟩; have HBW := hideIt (Below.drew_left hb2); have HRW := hideIt hr2; obtain ⟨p0, p1, p2, p3, p4, p5⟩ := HKEEP.out w2 HBW.out; clear hb2 hr2))
                                  all_goals
                                    go_wp2_with fail
                                    go_meet
                                    exact ⟨HBW.out, rfl, rfl, HRW.out⟩
                              case rest =>
                                have HCUT := hideIt hcut
                                clear hcut
                                rename World => W9
                                clear f0 tq HKEEP HSTEP
                                have hb9 := HCUT.out.1
                                have HX9 : Hid (∀ W, Below wr.heap.size wr W → stepN p.srD S ord k = none → RndAt p sm w f ord S vs ov (visitM p.srD (f + 1) S ord ent) (k + 1) W) := hideIt (fun W hW hsn => ⟨ov', ent', H8.out.below hW, HV7.out.trans (vfr_grown ((grown_below HBJ.out).trans (grown_below hW))), (hW.block w.heap.size (lt_of_heap HT8.out)).trans HT8.out, hb7, by rw [HR7.out]; exact loopC_none (c := p.srD) hkl hsn⟩)
                                have HSN : Hid (stepN p.srD S ord k = tellR xe xr sr) := hideIt (by
                                  unfold stepN
                                  rw [HFR.out]
                                  show tellN p.srD S k = _
                                  unfold tellN
                                  show (match stepM p.o (S (opN p.ops k).k) (opN p.ops k).d (opN p.ops k).a (opN p.ops k).b with | none => none | some (st, r) => if decide ((opN p.ops k).e < 0) || (opN p.ops k).r == r then some st else none) = _
                                  rw [HX.out, ← HSR.out]
                                  rfl)
                                have HB9 := hideIt hb9
                                have o1' : W9.cell? ⟨W7.heap.size, 1, none⟩ = some (.int .i64 (q : Int)) := (hb9.cell (p := ⟨W7.heap.size, 1, none⟩) hol).trans o1
                                have o5' : W9.cell? ⟨W7.heap.size, 5, none⟩ = some (.int .i64 xr) := (hb9.cell (p := ⟨W7.heap.size, 5, none⟩) hol).trans o5
                                have o7' : W9.cell? ⟨W7.heap.size, 7, none⟩ = some (.int .i64 xe) := (hb9.cell (p := ⟨W7.heap.size, 7, none⟩) hol).trans o7
                                clear hb9 o0 o1 o2 o3 o4 o5 o6 o7
                                cases sr with
                                | none =>
                                  obtain ⟨_, rfl, rfl, rfl⟩ := HCUT.out
                                  have HXX := hideIt (HX9.out _ HB9.out HSN.out)
                                  go_wp2
                                  go_roundw
                                  case rel => exact ⟨k + 1, by omega, by go_num, HXX.out⟩
                                  case measure => simp [intOf]; omega
                                | some pr =>
                                  obtain ⟨st, r⟩ := pr
                                  obtain ⟨_, rfl, rfl, hrv⟩ := HCUT.out
                                  obtain ⟨va, vl, vc, hv⟩ := hrv.slice
                                  have HRV := hideIt hrv
                                  rw [hv] at HRV
                                  clear hrv
                                  subst hv
                                  have hsn : stepN p.srD S ord k = if decide (xe < 0) || xr == r then some st else none := HSN.out
                                  by_cases hskip : 0 ≤ xe ∧ r ≠ xr
                                  · have e1 : decide (xe < 0) = false := by simp; omega
                                    have e2 : (xr == r) = false := by simp; exact fun e => hskip.2 e.symm
                                    rw [e1, e2] at hsn
                                    have HXX := hideIt (HX9.out _ HB9.out hsn)
                                    have g1 : (r != xr) = true := by simp; exact hskip.2
                                    have g2 : decide (0 ≤ xe) = true := by simp; exact hskip.1
                                    clear hsn e1 e2 hskip HX9
                                    go_wp2
                                    go_roundw
                                    case rel => exact ⟨k + 1, by omega, by go_num, HXX.out⟩
                                    case measure => simp [intOf]; omega
                                  · have HSN2 : Hid (stepN p.srD S ord k = some st) := hideIt (by
                                      rw [hsn]
                                      by_cases h0 : xe < 0
                                      · rw [show decide (xe < 0) = true by simpa using h0]; rfl
                                      · have : r = xr := Classical.byContradiction fun hne => hskip ⟨by omega, hne⟩
                                        subst this
                                        simp)
                                    have h9 := H8.out.below HB9.out
                                    have hT9 : W9.heap[w.heap.size]? = some (.cells (stA vs) 46 (0, 0)) := (HB9.out.block w.heap.size (lt_of_heap HT8.out)).trans HT8.out
                                    have tc : ∀ i, W9.cell? ⟨w.heap.size, i, none⟩ = (stA vs)[i]? := fun i => cell_of_row W9 _ _ _ 46 (0, 0) hT9
                                    obtain ⟨A0, L0, C0, e0⟩ := (h9.rows 0 (by decide)).slice
                                    obtain ⟨A1, L1, C1, e1⟩ := (h9.rows 1 (by decide)).slice
                                    obtain ⟨A2, L2, C2, e2⟩ := (h9.rows 2 (by decide)).slice
                                    obtain ⟨A3, L3, C3, e3⟩ := (h9.rows 3 (by decide)).slice
                                    obtain ⟨A4, L4, C4, e4⟩ := (h9.rows 4 (by decide)).slice
                                    obtain ⟨A5, L5, C5, e5⟩ := (h9.rows 5 (by decide)).slice
                                    obtain ⟨A6, L6, C6, e6⟩ := (h9.rows 6 (by decide)).slice
                                    obtain ⟨A7, L7, C7, e7⟩ := (h9.rows 7 (by decide)).slice
                                    have t0 : W9.cell? ⟨w.heap.size, 0, none⟩ = some (.slice A0 L0 C0) := (tc 0).trans (by rw [← e0]; rfl)
                                    have t1 : W9.cell? ⟨w.heap.size, 1, none⟩ = some (.slice A1 L1 C1) := (tc 1).trans (by rw [← e1]; rfl)
                                    have t2 : W9.cell? ⟨w.heap.size, 2, none⟩ = some (.slice A2 L2 C2) := (tc 2).trans (by rw [← e2]; rfl)
                                    have t3 : W9.cell? ⟨w.heap.size, 3, none⟩ = some (.slice A3 L3 C3) := (tc 3).trans (by rw [← e3]; rfl)
                                    have t4 : W9.cell? ⟨w.heap.size, 4, none⟩ = some (.slice A4 L4 C4) := (tc 4).trans (by rw [← e4]; rfl)
                                    have t5 : W9.cell? ⟨w.heap.size, 5, none⟩ = some (.slice A5 L5 C5) := (tc 5).trans (by rw [← e5]; rfl)
                                    have t6 : W9.cell? ⟨w.heap.size, 6, none⟩ = some (.slice A6 L6 C6) := (tc 6).trans (by rw [← e6]; rfl)
                                    have t7 : W9.cell? ⟨w.heap.size, 7, none⟩ = some (.slice A7 L7 C7) := (tc 7).trans (by rw [← e7]; rfl)
                                    have HA : Hid (#[.slice A0 L0 C0, .slice A1 L1 C1, .slice A2 L2 C2, .slice A3 L3 C3, .slice A4 L4 C4, .slice A5 L5 C5, .slice A6 L6 C6, .slice A7 L7 C7] = stA vs) := hideIt (by unfold stA; rw [e0, e1, e2, e3, e4, e5, e6, e7])
                                    clear e0 e1 e2 e3 e4 e5 e6 e7
                                    have H9 := hideIt h9
                                    have HT9 := hideIt hT9
                                    clear h9 hT9 tc hsn HX9
                                    go_upto_region 36 with fail
                                    go_cut [171] (fun x wx => x = .bool false ∧ wx = W9)
                                    case first =>
                                      by_cases hr : r = xr
                                      · subst hr
                                        go_wp2_with fail
                                        go_meet
                                        exact ⟨by simp, rfl⟩
                                      · have g1 : (r != xr) = true := by simp; exact hr
                                        have g2 : decide (0 ≤ xe) = false := by simp; exact Int.not_le.1 (fun h0 => hskip ⟨h0, hr⟩)
                                        go_wp2_with fail
                                        go_meet
                                        exact ⟨by simp, rfl⟩
                                    case rest =>
                                      obtain ⟨rfl, hwc⟩ := hcut
                                      rw [hwc]
                                      clear hwc
                                      go_upto_region 38 with fail
                                      have HW10 : Hid (W9.alloc (.cells #[.slice A0 L0 C0, .slice A1 L1 C1, .slice A2 L2 C2, .slice A3 L3 C3, .slice A4 L4 C4, .slice A5 L5 C5, .slice A6 L6 C6, .slice A7 L7 C7] 46) = W9.alloc (.cells (stA vs) 46)) := hideIt (by rw [HA.out])
                                      generalize hW10 : W9.alloc (.cells #[.slice A0 L0 C0, .slice A1 L1 C1, .slice A2 L2 C2, .slice A3 L3 C3, .slice A4 L4 C4, .slice A5 L5 C5, .slice A6 L6 C6, .slice A7 L7 C7] 46) = W10
                                      have hW10' : W10 = W9.alloc (.cells (stA vs) 46) := by rw [← hW10]; exact HW10.out
                                      have HW := hideIt hW10'
                                      clear hW10 hW10' HW10 t0 t1 t2 t3 t4 t5 t6 t7
                                      have hT2 : W10.heap[W9.heap.size]? = some (.cells (stA vs) 46 (0, 0)) := by rw [HW.out]; exact heap_alloc_new W9 _
                                      have hb10 : Below W9.heap.size W9 W10 := by rw [HW.out]; exact belN _ _
                                      have y1 : W10.cell? ⟨W7.heap.size, 1, none⟩ = some (.int .i64 (q : Int)) := (hb10.cell (p := ⟨W7.heap.size, 1, none⟩) (World.block_lt_of_cell? W9 _ o1')).trans o1'
                                      have y2 : W10.cell? ⟨W9.heap.size, q, none⟩ = some (vs q) := (cell_of_row W10 _ _ _ 46 (0, 0) hT2).trans (stA_at vs q hq)
                                      have y3 : W10.frozen? ⟨W9.heap.size, q, none⟩ = false := frozen_of_row W10 _ _ _ 46 hT2
                                      have hT11 : (W10.setCell ⟨W9.heap.size, q, none⟩ (.slice va vl vc)).heap[W9.heap.size]? = some (.cells (stA (setV vs q (.slice va vl vc))) 46 (0, 0)) := by
                                        rw [← stA_set vs q hq]
                                        simp [World.setCell, Array.getElem?_modify, hT2]
                                      have hb11 : Below W9.heap.size W9 (W10.setCell ⟨W9.heap.size, q, none⟩ (.slice va vl vc)) := hb10.setCell (p := ⟨W9.heap.size, q, none⟩) (Nat.le_refl _) _
                                      have HT11 := hideIt hT11
                                      have HB11 := hideIt hb11
                                      clear hT2 hb10 hT11 hb11 HW o1' o5' o7'
                                      go_upto_region 39 with fail
                                      generalize hW11 : W10.setCell ⟨W9.heap.size, q, none⟩ (.slice va vl vc) = W11
                                      rw [hW11] at HT11 HB11
                                      clear hW11 y1 y2 y3
                                      have h11 := H9.out.below HB11.out
                                      obtain ⟨i3, hi3, hz3, hs3, hb3⟩ := info_parts info3
                                      have HO11 := hideIt h11.ordr
                                      have e5 : W11.cell? ⟨p.B, 5, none⟩ = some ov' := fblk_cell h11.blk 5
                                      have hl11 := h11.lo
                                      have hB11 := lt_of_heap h11.blk
                                      have H11 := hideIt h11
                                      clear h11
                                      have hol2 := hro.2
                                      go_wp2_with (at_builtin; refine wpList_append_own_at _ rfl _ _ 24 rfl p.b0 3 i3 (.int .i64 0) 1 8 Tryz.underlying24 hi3 hz3 hs3 hb3 rfl (by decide) ov' ord.length (ordV ord) rfl (HO11.out.alloc _) ⟨W11.heap.size, 0, none⟩ 1 1 [.int .i64 k] rfl rfl (cell_one_new _ _ _) ?c2 ?c3 ?c4 ?c5 ?_)
                                      case c2 => intro u hu; simp at hu; subst hu; rfl
                                      case c3 => unfold maxLen; omega
                                      case c4 => omega
                                      case c5 => simp; omega
                                      intro v' w12 hown hgr _ hloc
                                      obtain ⟨va', vc', hv'⟩ := ownsRow_slice hown
                                      subst hv'
                                      have hg12 : W11.grownBy w12 ov'.ownBlock := (World.grownBy_alloc W11 _ _).trans hgr
                                      have hneB : some p.B ≠ ov'.ownBlock := fun e => by
                                        obtain ⟨_, _, cur, hc⟩ := ownsRow_block H11.out.ordr _ e.symm
                                        rw [H11.out.blk] at hc; simp at hc
                                      have hB12 : w12.heap[p.B]? = some (.cells (fblk p sm ov') 60 (0, 0)) := (hg12.block p.B hB11 hneB).trans H11.out.blk
                                      have c6 : w12.cell? ⟨p.B, 5, none⟩ = some ov' := fblk_cell hB12 5
                                      have f6 := fblk_fz hB12 5
                                      have hovn : ∀ b, (Value.slice va' (ord.length + 1) vc').ownBlock = some b → ov'.ownBlock = some b ∨ W11.heap.size ≤ b := fun b hb => by
                                        rcases hloc with e | e
                                        · exact .inl (e ▸ hb)
                                        · right
                                          rw [e] at hb
                                          have : b = W11.heap.size + 1 := by simpa using (Option.some.inj hb).symm
                                          omega
                                      have hvB : ∀ b, (Value.slice va' (ord.length + 1) vc').ownBlock = some b → b ≠ p.B := fun b hb e => by
                                        subst e
                                        rcases hovn _ hb with e1 | e1
                                        · exact hneB e1.symm
                                        · omega
                                      have hv13 : VFr p ov' W11 (.slice va' (ord.length + 1) vc') (w12.setCell ⟨p.B, 5, none⟩ (.slice va' (ord.length + 1) vc')) := (vfr_row hg12 hovn).trans (vfr_set 5 _ (fun _ h => .inl h))
                                      have h13 : FndAt p sm (w12.setCell ⟨p.B, 5, none⟩ (.slice va' (ord.length + 1) vc')) (ord ++ [k]) (setK S (q : Int) st) (setV vs q (.slice va vl vc)) (.slice va' (ord.length + 1) vc') ent' := by
                                        have hrx : RowAt W11 p.b0 (.slice va vl vc) st := (HRV.out.same (fun b hb => HB11.out.block b (HRV.out.lt b hb).2)).base (by have := H8.out.lo; omega)
                                        have hst := H11.out.states (rows_set (S := S) (q := q) H11.out.rows hrx) (sep_set H11.out.sep (fun b hb e => by
                                          have h1 := (HRV.out.lt b hb).1
                                          have h2 := (H8.out.ordr.lt b e).2
                                          omega))
                                        refine hst.turn hv13 (fblk_set hB12 5 _) ?_ ?_
                                        · have : w12.ownsRow p.b0 3 1 (.slice va' (ord.length + 1) vc') (ord ++ [k]).length (ordV (ord ++ [k])) := by simpa [ordV] using hown
                                          exact ownsRow_same this (fun b hb => Below.heap_setCell _ _ _ _ (hvB b hb))
                                        · obtain ⟨es, clock, hm⟩ := H11.out.set.isMap
                                          have hMB : p.M ≠ p.B := fun e => by rw [e, H11.out.blk] at hm; cases hm
                                          refine H11.out.set.same ((Below.heap_setCell _ _ _ _ hMB).trans (hg12.block p.M (lt_of_heap hm) (fun e => ?_)))
                                          obtain ⟨_, _, cur, hc⟩ := ownsRow_block H11.out.ordr p.M e.symm
                                          rw [hc] at hm; cases hm
                                      have hT13 : (w12.setCell ⟨p.B, 5, none⟩ (.slice va' (ord.length + 1) vc')).heap[W9.heap.size]? = some (.cells (stA (setV vs q (.slice va vl vc))) 46 (0, 0)) := by
                                        have hne : W9.heap.size ≠ p.B := fun e => by have := HT11.out; rw [e, H11.out.blk] at this; simp at this
                                        rw [Below.heap_setCell _ _ _ _ hne, hg12.block W9.heap.size (lt_of_heap HT11.out) (fun e => by
                                          obtain ⟨_, _, cur, hc⟩ := ownsRow_block H11.out.ordr _ e.symm
                                          rw [HT11.out] at hc; simp at hc)]
                                        exact HT11.out
                                      have H13 := hideIt h13
                                      have HV13 : Hid (VFr p ov' W9 (.slice va' (ord.length + 1) vc') (w12.setCell ⟨p.B, 5, none⟩ (.slice va' (ord.length + 1) vc'))) := hideIt ((vfr_grown (grown_below HB11.out)).trans hv13)
                                      have HT13 := hideIt hT13
                                      clear hown hgr hloc hg12 hneB hB12 hovn hvB hv13 h13 hT13 e5
                                      go_upto_region 40 with fail
                                      generalize hW13 : w12.setCell ⟨p.B, 5, none⟩ (.slice va' (ord.length + 1) vc') = W13
                                      rw [hW13] at H13 HV13 HT13
                                      clear hW13 c6 f6
                                      have hR2 : Reach p.srD (ord ++ [k]) (setK S (q : Int) st) := by rw [← HKQ.out]; exact hR.step hkl HSN2.out
                                      have HI : Hid (∀ W, W13.grownBy W none → ∀ m : Int, m = (maskN (ord ++ [k]) : Int) → Calls Tryz.prog 22 #[.pointer (some ⟨p.B, 0, none⟩), .int .u64 m, .agg #[setV vs q (.slice va vl vc) 0, setV vs q (.slice va vl vc) 1, setV vs q (.slice va vl vc) 2, setV vs q (.slice va vl vc) 3, setV vs q (.slice va vl vc) 4, setV vs q (.slice va vl vc) 5, setV vs q (.slice va vl vc) 6, setV vs q (.slice va vl vc) 7]] W fun e w' => ATold p sm W (setK S (q : Int) st) (setV vs q (.slice va vl vc)) (.slice va' (ord.length + 1) vc') (visitM p.srD f (setK S (q : Int) st) (ord ++ [k]) ent') e w') := hideIt (fun W hW m hm => by
                                        rw [hm]
                                        exact ih (ord ++ [k]) (setK S (q : Int) st) (setV vs q (.slice va vl vc)) _ ent' W (H13.out.grown hW) hR2 (by simp; omega) hb7)
                                      have sc : ∀ i, W13.cell? ⟨W9.heap.size, i, none⟩ = (stA (setV vs q (.slice va vl vc)))[i]? := fun i => cell_of_row W13 _ _ _ 46 (0, 0) HT13.out
                                      have s0 : W13.cell? ⟨W9.heap.size, 0, none⟩ = some (setV vs q (.slice va vl vc) 0) := sc 0
                                      have s1 : W13.cell? ⟨W9.heap.size, 1, none⟩ = some (setV vs q (.slice va vl vc) 1) := sc 1
                                      have s2 : W13.cell? ⟨W9.heap.size, 2, none⟩ = some (setV vs q (.slice va vl vc) 2) := sc 2
                                      have s3 : W13.cell? ⟨W9.heap.size, 3, none⟩ = some (setV vs q (.slice va vl vc) 3) := sc 3
                                      have s4 : W13.cell? ⟨W9.heap.size, 4, none⟩ = some (setV vs q (.slice va vl vc) 4) := sc 4
                                      have s5 : W13.cell? ⟨W9.heap.size, 5, none⟩ = some (setV vs q (.slice va vl vc) 5) := sc 5
                                      have s6 : W13.cell? ⟨W9.heap.size, 6, none⟩ = some (setV vs q (.slice va vl vc) 6) := sc 6
                                      have s7 : W13.cell? ⟨W9.heap.size, 7, none⟩ = some (setV vs q (.slice va vl vc) 7) := sc 7
                                      clear sc
                                      have hk60 : k < 60 := by omega
                                      have HMK : Hid (bits .or .u64 (maskN ord : Int) (IntKind.u64.wrap (2 ^ k)) = (maskN (ord ++ [k]) : Int)) := hideIt (by
                                        have hw : IntKind.u64.wrap ((2 : Int) ^ k) = ((2 ^ k : Nat) : Int) := by
                                          have h1 : (2 : Nat) ^ k < 18446744073709551616 := pow_lt64 (by omega)
                                          have h2 : ((2 : Int) ^ k) = ((2 ^ k : Nat) : Int) := by simp
                                          rw [h2]
                                          generalize (2 : Nat) ^ k = m at h1
                                          rw [IntKind.wrap_u64]
                                          omega
                                        rw [hw, or_bits (maskN_lt (fun m hm => by have := hro.1 m hm; omega)) (by omega), or_bit])
                                      go_cut [24] (fun x wx => ATold p sm W13.drew (setK S (q : Int) st) (setV vs q (.slice va vl vc)) (.slice va' (ord.length + 1) vc') (visitM p.srD f (setK S (q : Int) st) (ord ++ [k]) ent') (.returned x) wx)
                                      case first =>
                                        go_region_with (go_at_call 22; refine (HI.out _ (grown_drew _ _) _ HMK.out).mono ?_; rintro e w14 hat; have HAT := hideIt hat; obtain ⟨rfl, _⟩ := hat)
                                        all_goals
                                          go_wp2_with fail
                                          go_meet
                                          exact HAT.out
                                      case rest =>
                                        obtain ⟨he, ov2, h14, hv14⟩ := hcut
                                        injection he with he
                                        rename World => W14
                                        have HHE := hideIt he
                                        rw [HHE.out]
                                        clear he s0 s1 s2 s3 s4 s5 s6 s7 HI
                                        have hvall : VFr p ov' W9 ov2 W14 := (HV13.out.trans (vfr_grown (grown_drew W13 none))).trans hv14
                                        have hvw : VFr p ov w ov2 W14 := ((HV7.out.trans (vfr_grown (grown_below HBJ.out))).trans (vfr_grown (grown_below HB9.out))).trans hvall
                                        have hcd := visit_code (c := p.srD) f (setK S (q : Int) st) (ord ++ [k]) ent'
                                        have hbu := visit_bud (c := p.srD) f (setK S (q : Int) st) (ord ++ [k]) ent' hb7
                                        have ho2 := visit_ord2 (c := p.srD) f (setK S (q : Int) st) (ord ++ [k]) ent'
                                        have HOUT := hideIt (fun hc => loopC_out (c := p.srD) (f := f) (S := S) (ord := ord) (ent := ent') hkl HSN2.out hc)
                                        have HON := hideIt (fun hc => loopC_on (c := p.srD) (f := f) (S := S) (ord := ord) (ent := ent') hkl HSN2.out hc)
                                        rw [show (opN p.srD.ops k).k = (q : Int) from HKQ.out] at HOUT HON
                                        have hT14 : W14.heap[w.heap.size]? = some (.cells (stA vs) 46 (0, 0)) := (hvall.same w.heap.size (lt_of_heap HT9.out) (fun e => by have := HT9.out; rw [e, H9.out.blk] at this; simp at this) (fun e => by
                                          obtain ⟨es, clock, hm⟩ := H9.out.set.isMap
                                          rw [← e, HT9.out] at hm; cases hm) (fun e => by
                                          obtain ⟨_, _, cur, hc⟩ := ownsRow_block H9.out.ordr _ e
                                          rw [HT9.out] at hc; simp at hc) (.inr fun c fz e => by rw [HT9.out] at e; simp at e)).trans HT9.out
                                        generalize visitM p.srD f (setK S (q : Int) st) (ord ++ [k]) ent' = R at h14 hcd hbu ho2 HOUT HON HHE ⊢
                                        have h14' := H9.out.turn hvall h14.blk h14.ordr h14.set
                                        by_cases hc2 : R.code = 2
                                        · have hc2' : ((R.code : Int) != 2) = false := by rw [hc2]; rfl
                                          rw [ho2 hc2] at h14'
                                          obtain ⟨g, oc, hov2, hoc, hom⟩ := order_some h14'.ordr
                                          have hgB : g ≠ p.B := fun e => by
                                            obtain ⟨_, _, cur, hc⟩ := ownsRow_block h14'.ordr g (by rw [hov2]; rfl)
                                            rw [e, h14'.blk] at hc; simp at hc
                                          have c5 : W14.cell? ⟨p.B, 5, none⟩ = some (.slice (some ⟨g, 0, none⟩) (ord.length + 1) oc) := by rw [← hov2]; exact fblk_cell h14'.blk 5
                                          have f5 := fblk_fz h14'.blk 5
                                          have HF : Hid (∀ W15, W15 = (W14.setCell ⟨p.B, 5, none⟩ (.slice (some ⟨g, 0, none⟩) ord.length oc)).drew → RndAt p sm w f ord S vs ov (visitM p.srD (f + 1) S ord ent) (k + 1) W15) := hideIt (fun W15 e => by
                                            subst e
                                            have hv15 : VFr p ov2 W14 (.slice (some ⟨g, 0, none⟩) ord.length oc) (W14.setCell ⟨p.B, 5, none⟩ (.slice (some ⟨g, 0, none⟩) ord.length oc)).drew := (vfr_set 5 _ (fun b hb => by rw [hov2]; exact .inl hb)).trans (vfr_grown (grown_drew _ _))
                                            refine ⟨.slice (some ⟨g, 0, none⟩) ord.length oc, R.ent, h14'.turn hv15 (fblk_set h14'.blk 5 _) ?_ ?_, hvw.trans hv15, ?_, hbu, ?_⟩
                                            · have h0 := h14'.ordr
                                              rw [hov2] at h0
                                              refine ownsRow_same (order_pop (cap := oc) (by simpa using h0)) fun b hb => ?_
                                              obtain rfl : g = b := by simpa [Value.ownBlock] using hb
                                              exact Below.heap_setCell _ _ _ _ hgB
                                            · obtain ⟨es, clock, hm⟩ := h14'.set.isMap
                                              have hMB : p.M ≠ p.B := fun e => by rw [e, h14'.blk] at hm; cases hm
                                              exact h14'.set.same (Below.heap_setCell _ _ _ _ hMB)
                                            · have hne : w.heap.size ≠ p.B := by omega
                                              exact (Below.heap_setCell _ _ _ _ hne).trans hT14
                                            · rw [HR7.out]; exact HON.out hc2)
                                          unfold maxLen at hom
                                          have l1 : IntKind.i64.wrap (((ord.length + 1 : Nat) : Int) - 1) = (ord.length : Int) := by rw [IntKind.wrap_i64]; omega
                                          have l2 : ((ord.length + 1 : Nat) : Int) - 1 = (ord.length : Int) := by omega
                                          clear hvall hvw h14 hv14 h14' hov2 hcd ho2 HOUT HON hT14 hc2
                                          go_upto_region 43 with fail
                                          go_region
                                          all_goals
                                            go_wp2
                                            go_roundw
                                            case rel => exact ⟨k + 1, by omega, by go_num, HF.out _ rfl⟩
                                            case measure => simp [intOf]; omega
                                        · have hc2' : ((R.code : Int) != 2) = true := by rw [bne_iff_ne]; omega
                                          have HXX : Hid (ATold p sm w S vs ov (visitM p.srD (f + 1) S ord ent) (.returned (.int .i64 (R.code : Int))) W14) := hideIt (by
                                            have e : visitM p.srD (f + 1) S ord ent = R := HR7.out.trans (HOUT.out hc2)
                                            rw [e]
                                            exact ⟨rfl, ov2, h14', hvw⟩)
                                          clear hvall hvw h14 hv14 h14' hcd ho2 HOUT HON hT14 hc2
                                          go_wp2
                                          go_ret
                                          exact HXX.out
                      · have HE := hideIt (loopC_end (c := p.srD) (f := f) (S := S) (ord := ord) (ent := ent') hkl)
                        have HX : Hid (ATold p sm w S vs ov (visitM p.srD (f + 1) S ord ent) (.returned (.int .i64 2)) W7) := hideIt (by
                          have e : visitM p.srD (f + 1) S ord ent = ⟨2, ord, ent'⟩ := HR7.out.trans HE.out
                          rw [e]
                          exact ⟨rfl, ov', h7, HV7.out⟩)
                        obtain rfl : k = p.ops.length := by omega
                        clear h7
                        go_wp2
                        go_ret
                        exact HX.out
                  · have HX : Hid (∀ w', W2.grownBy w' none → ATold p sm w S vs ov (visitM p.srD (f + 1) S ord ent) (.returned (.int .i64 3)) w') := hideIt (fun w' hg => by
                      have e : visitM p.srD (f + 1) S ord ent = ⟨3, ord, ent⟩ := by
                        unfold visitM
                        rw [if_neg (show ¬ overB p.srD.ops ord = true by show ¬ overB p.ops ord = true; rw [hov]; decide), if_neg (show ¬ ent.contains (p.srD.nm ord S) = true by show ¬ ent.contains (nameD Lib.itoa ord S) = true; rw [HNM.out, HCON.out]; decide),
                          if_pos (show ent.length = p.srD.bud by have := HEB.out; simp at this; exact Int.ofNat.inj this)]
                      rw [e]
                      exact ⟨rfl, ov, H2.out.grown hg, vfr_grown (HG2.out.trans hg)⟩)
                    go_wp2
                    go_ret
                    exact HX.out _ (grown_drew _ _)
              · have HX : Hid (∀ w', W2.grownBy w' none → ATold p sm w S vs ov (visitM p.srD (f + 1) S ord ent) (.returned (.int .i64 2)) w') := hideIt (fun w' hg => by
                  have e : visitM p.srD (f + 1) S ord ent = ⟨2, ord, ent⟩ := by
                    unfold visitM
                    rw [if_neg (show ¬ overB p.srD.ops ord = true by show ¬ overB p.ops ord = true; rw [hov]; decide), if_pos (show ent.contains (p.srD.nm ord S) = true by show ent.contains (nameD Lib.itoa ord S) = true; rw [HNM.out]; exact HCON.out)]
                  rw [e]
                  exact ⟨rfl, ov, H2.out.grown hg, vfr_grown (HG2.out.trans hg)⟩)
                go_wp2
                go_ret
                exact HX.out _ (grown_refl _ _)
        · have HV : Hid (∀ w', (w.alloc (.cells (stA vs) 46)).grownBy w' none → ATold p sm w S vs ov (visitM p.srD (f + 1) S ord ent) (.returned (.int .i64 1)) w') := hideIt (fun w' hg => by
            have e : visitM p.srD (f + 1) S ord ent = ⟨1, ord, ent⟩ := by
              unfold visitM; rw [if_pos (show overB p.srD.ops ord = true from hov)]
            rw [e]
            have hg' := (World.grownBy_alloc w (.cells (stA vs) 46) none).trans hg
            exact ⟨rfl, ov, HH.out.grown hg', vfr_grown hg'⟩)
          clear hov
          go_wp2
          go_ret
          exact HV.out _ HG.out
end Go.Proofs.YtkbjaneekblgmaaGreatDoor
