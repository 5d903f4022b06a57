/-
  The document's GenParse: the signs of a text, and what is read of them.
-/
import Derived.Test.YthblokfiojccmaaGreatDoorPrG
import Derived.Test.YthblokfiojccmaaGreatDoorGsP
import Derived.Test.YthblokfiojccmaaGreatDoorRdH
import Derived.Lib.AppendZeros
namespace Go.Proofs.YthblokfiojccmaaGreatDoor.Gn
open Go.RowKit

/-- What holds where no sign is found yet, as laid. -/
def FineT (w : World) : Prop := w.cell? ⟨0, 0, none⟩ = some (.int .i64 0) ∧ w.cell? ⟨0, 1, none⟩ = some (.int .i64 (-1))
theorem infoSd : (Tryz.prog.info? 58).map (fun i => (i.zero, i.size, i.bytes)) = some (some (.agg #[.string ⟨#[]⟩, .int .i64 0]), 2, 24) := by kernel_rfl
/-- One more sign. -/
theorem sign_append (w : World) (B0 : Nat) (kv : Value) (n : Nat) (xs : List Value) (s : ByteArray) (k : Int) (h : w.ownsRow B0 58 2 kv n xs) (hb : B0 ≤ w.heap.size) (hn : n ≤ 2500) :
    ∃ g cap Y, (Builtin.append_ #[54, 54] 54 #[kv, .slice (some ⟨w.heap.size, 0, none⟩) 1 1]).run Tryz.prog (w.alloc (.cells #[.string s, .int .i64 k] 58)) = .ok (.slice (some ⟨g, 0, none⟩) (n + 1) cap) Y ∧
      Y.ownsRow B0 58 2 (.slice (some ⟨g, 0, none⟩) (n + 1) cap) (n + 1) (xs ++ [.string s, .int .i64 k]) ∧ B0 ≤ g ∧ g < Y.heap.size ∧ Fr kv.ownBlock.toList w Y := by
  obtain ⟨i0, hi, hz0, hz1, hz2⟩ := info_parts' infoSd
  have hrow := h.alloc (.cells #[.string s, .int .i64 k] 58)
  have hnew := heap_new w (.cells #[.string s, .int .i64 k] 58)
  obtain ⟨v', Y, h1, h2, h3, _, h4⟩ := run_append_own_at (P := Tryz.prog) _ B0 54 54 58 i0 _ 2 24 Tryz.underlying54 hi hz0 hz1 hz2 rfl (by decide) kv n xs hrow ⟨w.heap.size, 0, none⟩ 1 1 [.string s, .int .i64 k] rfl (fun j u hj => by
    match j, hj with
    | 0, hj => simp at hj; subst hj; rw [show (⟨w.heap.size, 0, none⟩ : Addr).add 0 = ⟨w.heap.size, 0, none⟩ from rfl, cell_of_row _ _ _ _ _ _ hnew]; rfl
    | 1, hj => simp at hj; subst hj; rw [show (⟨w.heap.size, 0, none⟩ : Addr).add 1 = ⟨w.heap.size, 1, none⟩ from rfl, cell_of_row _ _ _ _ _ _ hnew]; rfl
    | n + 2, hj => simp at hj) (fun u hu => by simp at hu; rcases hu with e | e <;> (rw [e]; rfl)) (by unfold maxLen; omega) (by omega) (by rw [World.size_alloc]; omega)
  obtain ⟨g, cap, rfl, h5, h6, h7⟩ := own_form1 h2
  have hs := h3.size
  rw [World.size_alloc] at hs
  refine ⟨g, cap, Y, h1, h2, h5, h6, ⟨h3.os, h3.tape, h3.output, by omega, fun k hk hn => ?_⟩⟩
  refine (h3.block k (by rw [World.size_alloc]; omega) (fun e => hn ?_)).trans (Below.heap_alloc _ _ _ hk)
  rw [← e]; simp

/-- The parser's own block, and the signs in it. -/
structure GsA (w : World) (P : Nat) (t : Bt) (wx : World) (ps : List (Bt × Nat)) (kv : Value) : Prop where
  c0 : wx.cell? ⟨P, 0, none⟩ = some kv
  c1 : wx.cell? ⟨P, 1, none⟩ = some (.int .i64 (t.length : Nat))
  c2 : wx.cell? ⟨P, 2, none⟩ = some (.int .i64 0)
  c3 : wx.cell? ⟨P, 3, none⟩ = some (.int .i64 (-1))
  fz : ∀ j, wx.frozen? ⟨P, j, none⟩ = false
  row : wx.ownsRow (P + 1) 58 2 kv ps.length (sgCs ps)
  res : wx.heap[w.heap.size]? = some (.cells #[.int .i64 0, .int .i64 0] 26)
  fr : Fr [] w wx
  lt : w.heap.size < P
theorem GsA.put {w : World} {P : Nat} {t : Bt} {wx Y : World} {ps : List (Bt × Nat)} {kv : Value} (h : GsA w P t wx ps kv) {g cap : Nat} {s : Bt} {k : Nat} (hg : P + 1 ≤ g)
    (hr : Y.ownsRow (P + 1) 58 2 (.slice (some ⟨g, 0, none⟩) (ps.length + 1) cap) (ps.length + 1) (sgCs ps ++ [.string (ba s), .int .i64 (k : Nat)])) (hf : Fr kv.ownBlock.toList wx Y) :
    GsA w P t (Y.setCell ⟨P, 0, none⟩ (.slice (some ⟨g, 0, none⟩) (ps.length + 1) cap)) (ps ++ [(s, k)]) (.slice (some ⟨g, 0, none⟩) (ps.length + 1) cap) := by
  have hPw : P < wx.heap.size := World.block_lt_of_cell? wx _ h.c0
  have hn : ∀ y, y ≤ P → y ∉ kv.ownBlock.toList := fun y hy e => by
    have e2 : kv.ownBlock = some y := by simpa using e
    have := (World.ownsRow.lt h.row y e2).1
    omega
  have hb := hf.block P hPw (hn P (Nat.le_refl _))
  have hb2 := hf.block w.heap.size (by have := h.lt; omega) (hn _ (by have := h.lt; omega))
  refine ⟨World.cell?_setCell_same' _ _ _ (by rw [World.cell?_of_block (a := ⟨P, 0, none⟩) hb, h.c0]; rfl), (World.cell?_setCell_other _ _ _ _ (offN (by omega))).trans ((World.cell?_of_block (a := ⟨P, 1, none⟩) hb).trans h.c1), (World.cell?_setCell_other _ _ _ _ (offN (by omega))).trans ((World.cell?_of_block (a := ⟨P, 2, none⟩) hb).trans h.c2), (World.cell?_setCell_other _ _ _ _ (offN (by omega))).trans ((World.cell?_of_block (a := ⟨P, 3, none⟩) hb).trans h.c3), fun j => by rw [frozen_setCell]; exact (World.frozen?_of_block (a := ⟨P, j, none⟩) hb).trans (h.fz j), ?_, ?_, ?_, h.lt⟩
  · rw [sgCs_snoc, List.length_append]
    exact ownsRow_blk hr (fun y hy => by have hy' : some g = some y := hy; cases hy'; exact Below.heap_setCell _ _ _ _ (by show g ≠ P; omega))
  · exact (Below.heap_setCell _ _ _ _ (by show w.heap.size ≠ P; have := h.lt; omega)).trans (hb2.trans h.res)
  · refine (h.fr.app2 (Y := kv.ownBlock.toList) hf (fun y hy => ?_)).setNew _ _ (Nat.le_of_lt h.lt)
    refine .inr ?_
    have e2 : kv.ownBlock = some y := by simpa using hy
    have := (World.ownsRow.lt h.row y e2).1
    have := h.lt
    omega
theorem GsA.drewN {w : World} {P : Nat} {t : Bt} {wx : World} {ps : List (Bt × Nat)} {kv : Value} (h : GsA w P t wx ps kv) (n : Nat) : GsA w P t (wx.drewN n) ps kv :=
  ⟨h.c0, h.c1, h.c2, h.c3, h.fz, ownsRow_blk h.row (fun _ _ => rfl), h.res, h.fr.trans (Fr.drewN _ _ n), h.lt⟩

/-- Where the pass over the bytes stands: i of them are seen, cur is the word that stands open. -/
structure GsI (w : World) (P : Nat) (t : Bt) (wx : World) (ps : List (Bt × Nat)) (kv : Value) (i : Nat) (cur : Bt) : Prop where
  a : GsA w P t wx ps kv
  tx : dsF [] t = ps.map (·.1) ++ dsF cur (t.drop i)
  few : ps.length + cur.length ≤ i
  cu : cur = (t.drop (i - cur.length)).take cur.length
theorem dsF_cons (cur : Bt) (c : UInt8) (l : Bt) : dsF cur (c :: l) = if c = 32 then emitD cur ++ dsF [] l else if isMk c = true then emitD cur ++ [c] :: dsF [] l else dsF (cur ++ [c]) l := rfl
theorem take_more (t : Bt) (i m : Nat) (hm : m ≤ i) (c : UInt8) (l : Bt) (h : t.drop i = c :: l) : (t.drop (i - m)).take m ++ [c] = (t.drop (i + 1 - (m + 1))).take (m + 1) := by
  rw [show i + 1 - (m + 1) = i - m by omega, List.take_add_one]
  congr 1
  rw [List.getElem?_drop, show i - m + m = i by omega]
  have : t[i]? = some c := by rw [← List.head?_drop, h]; rfl
  rw [this]; rfl

theorem pgen_all : ∀ f, f ≤ 20 → PgOk f
  | 0, _ => pgen_deep
  | f + 1, h => pgen_more (pgen_all f (by omega)) (by omega)
theorem enc_40 : Utf8.encode 40 = ba [40] := by decide +kernel
theorem enc_41 : Utf8.encode 41 = ba [41] := by decide +kernel
theorem enc_44 : Utf8.encode 44 = ba [44] := by decide +kernel
/-- What the document's GenParse tells. -/
def DpTold (t : Bt) (w : World) (e : Ending) (w' : World) : Prop :=
  Fr [] w w' ∧ ((∃ g v bs y, parseF t = some g ∧ e = .returned (.tuple #[v, .agg #[.int .i64 0, .int .i64 y]]) ∧ DgAt 20 w' w.heap.size v g bs) ∨
  (parseF t = none ∧ ∃ x fl y, fl ≠ 0 ∧ e = .returned (.tuple #[.pointer x, .agg #[.int .i64 fl, .int .i64 y]])))
theorem sizeFt : (Tryz.prog.info? 26).map (·.size) = some 2 := by kernel_rfl
theorem loadFt {w : World} {g : Nat} {v u : Value} (h : w.cell? ⟨g, 0, none⟩ = some v) (h' : w.cell? ⟨g, 1, none⟩ = some u) : (loadVar 26 ⟨g, 0, none⟩).run Tryz.prog w = .ok (.agg #[v, u]) w :=
  run_loadVar_mid w g 0 26 [v, u] _ (fun j y hy => by
    match j with
    | 0 => simp at hy; subst hy; exact h
    | 1 => simp at hy; subst hy; exact h'
    | j + 2 => simp at hy) Tryz.underlying26 rfl sizeFt
theorem results_tmp_cell {fn : Func} {p u : Tmp} {ty : TypeId} (h : fn.results = #[.tmp u, .cell p ty]) (tmps : Array Value) (w : World) :
    (results fn tmps).run Tryz.prog w = ((asAddr (tmps.getD p undef)).run Tryz.prog w).andThen fun a w₁ => ((loadVar ty a).run Tryz.prog w₁).andThen fun v w₂ => .ok (.tuple #[tmps.getD u undef, v]) w₂ := by
  simp only [results, h]
  simp [Sem.run_bind, Result.andThen]
theorem results_tc {fn : Func} {p u : Tmp} {ty : TypeId} (h : fn.results = #[.tmp u, .cell p ty]) (tmps : Array Value) (w : World) (g : Nat) (v : Value)
    (hp : tmps.getD p undef = .pointer (some ⟨g, 0, none⟩)) (hl : (loadVar ty ⟨g, 0, none⟩).run Tryz.prog w = .ok v w) : (results fn tmps).run Tryz.prog w = .ok (.tuple #[tmps.getD u undef, v]) w := by
  rw [results_tmp_cell h]
  simp only [hp, asAddr, Sem.run_pure, Result.andThen_ok, hl]

set_option maxHeartbeats 2000000 in
theorem dparse_long (t : Bt) (w : World) (hl : 2000 < t.length) : Calls Tryz.prog 4 #[.string (ba t)] w (DpTold t w) := by
  have hsz := ba_size t
  have HN : Hid (parseF t = none) := hideIt (by unfold parseF; rw [if_pos hl])
  have hl' : (2000 : Int) < (t.length : Int) := by omega
  go_enter Tryz.func4, Tryz.ntmps4
  go_wp2
  have hnw := heap_new w (.cells #[.int .i64 4, .int .i64 (-1)] 26)
  exact bodyPost_ret (results_tc rfl _ _ _ _ rfl (loadFt (by rw [cell_of_row _ _ _ _ _ _ hnw]; rfl) (by rw [cell_of_row _ _ _ _ _ _ hnw]; rfl))) rfl ⟨Fr.alloc _ _ _, .inr ⟨HN.out, none, 4, -1, by decide, rfl⟩⟩

set_option maxHeartbeats 16000000 in
set_option maxRecDepth 100000 in
theorem dparse_any (t : Bt) (w : World) (hv : ErrV w) (hp : PowT w) (hF : FineT w) : Calls Tryz.prog 4 #[.string (ba t)] w (DpTold t w) := by
  by_cases hl : 2000 < t.length
  · exact dparse_long t w hl
  have hsz := ba_size t
  have hl' : ¬ (2000 : Int) < (t.length : Int) := by omega
  obtain ⟨f0, f1⟩ := hF
  have h0 : 0 < w.heap.size := World.block_lt_of_cell? w _ f0
  have hEV : gRng < w.heap.size ∧ gSyn < w.heap.size := hv.lt
  have hPV := hp.lt
  have HV := hideIt hv
  have HP := hideIt hp
  have HI : Hid (GsI w (w.heap.size + 1) t ((w.alloc (.cells #[.int .i64 0, .int .i64 0] 26)).alloc (.cells #[.slice none 0 0, .int .i64 (t.length : Nat), .int .i64 0, .int .i64 (-1)] 56)) [] (.slice none 0 0) 0 []) := by
    have hn1 := heap_new w (.cells #[.int .i64 0, .int .i64 0] 26)
    have hn2 := heap_new (w.alloc (.cells #[.int .i64 0, .int .i64 0] 26)) (.cells #[.slice none 0 0, .int .i64 (t.length : Nat), .int .i64 0, .int .i64 (-1)] 56)
    rw [World.size_alloc] at hn2
    refine ⟨⟨by rw [cell_of_row _ _ _ _ _ _ hn2]; rfl, by rw [cell_of_row _ _ _ _ _ _ hn2]; rfl, by rw [cell_of_row _ _ _ _ _ _ hn2]; rfl, by rw [cell_of_row _ _ _ _ _ _ hn2]; rfl, fun j => frozen_of_row _ _ j _ _ hn2, World.ownsRow_nil _ _ _ _, ?_, (Fr.alloc _ _ _).trans (Fr.alloc _ _ _), by omega⟩, by simp, by simp, by simp⟩
    rw [Below.heap_alloc _ _ _ (by simp)]; exact hn1
  clear hv hp
  go_enter Tryz.func4, Tryz.ntmps4
  go_wp2
  clear f0 f1
  go_loopg [5, 6, 7, 8] (t.length + 1) (fun k wv iv _ _ wx => ∃ ps kv i cur, k + i = t.length + 1 ∧ iv = .int .i64 (i : Nat) ∧ ((cur = [] ∧ wv = .int .i64 (-1)) ∨ (∃ st : Nat, cur ≠ [] ∧ wv = .int .i64 (st : Nat) ∧ st + cur.length = i)) ∧ (i = t.length + 1 → cur = []) ∧ GsI w (w.heap.size + 1) t wx ps kv i cur)
  case atStart => exact ⟨[], _, 0, [], by omega, rfl, .inl ⟨rfl, rfl⟩, fun _ => rfl, HI.out⟩
  case round =>
    clear HI
    obtain ⟨ps, kv, i, cur, hki, rfl, hwv, hend, hI⟩ := hrel
    have HM := hideIt hI
    cases gk with
    | zero =>
      obtain rfl := hend (by omega)
      have hie : ¬ (i : Int) ≤ (t.length : Int) := by omega
      have htx := hI.tx
      rw [List.drop_eq_nil_of_le (by omega), show dsF [] [] = [] from rfl, List.append_nil, ← sgs_dsF t.length t (Nat.le_refl _)] at htx
      obtain ⟨S, hS⟩ : ∃ S, PrAt wr (w.heap.size + 1) S (ps.map (·.1)) 0 0 := by
        have ha := hI.a
        have hfew := hI.few
        have hPw : w.heap.size + 1 < wr.heap.size := World.block_lt_of_cell? wr _ ha.c0
        rcases ha.row.2 with ⟨e, e0⟩ | ⟨g, cap, cur, e, e1, e2, e3, e4, e5, e6⟩
        · have hp0 : ps = [] := List.eq_nil_of_length_eq_zero e0
          subst hp0
          refine ⟨0, ⟨⟨none, 0, by rw [ha.c0, e]; rfl, by simp, fun h => by simp at h⟩, ha.fz 0, ⟨_, ha.c1⟩, ha.c2, ⟨_, ha.c3⟩, ha.fz 2, ha.fz 3, fun i h => by simp at h, by simp, by simp, by omega, by omega⟩⟩
        · have hg : g < wr.heap.size := (Array.getElem?_eq_some_iff.1 e2).1
          refine ⟨g, ⟨⟨some ⟨g, 0, none⟩, cap, by rw [ha.c0, e]; simp, by simp; exact e3, fun _ => by simp⟩, ha.fz 0, ⟨_, ha.c1⟩, ha.c2, ⟨_, ha.c3⟩, ha.fz 2, ha.fz 3, fun j hj => ?_, by simp, by simp at hfew ⊢; omega, by omega, hg⟩⟩
          have hj2 : j < ps.length := by simpa using hj
          obtain ⟨q1, q2⟩ := sgCs_at ps j hj2
          have hr := ha.row
          rw [e] at hr
          refine ⟨?_, _, (hr.cellAt (j * 2 + 1) (by omega)).trans q2⟩
          rw [List.getElem_map]
          exact (hr.cellAt (j * 2) (by omega)).trans q1
      have hEnv : PrEnv wr (w.heap.size + 1) (ps.map (·.1)) := ⟨HV.out.fr hI.a.fr (by simp) (by simp), HP.out.fr hI.a.fr (by simp), by omega, by omega, by omega, fun x hx => by
        rw [← htx] at hx
        have := (sgs_mem _ _ _ hx).2
        omega⟩
      have HG := hideIt (pgen_all 20 (Nat.le_refl _) 0 (by omega) w.heap.size wr (w.heap.size + 1) S (ps.map (·.1)) 0 hS hEnv hI.a.fr.size)
      have HRes := hideIt hI.a.res
      have HFr := hideIt hI.a.fr
      have hwP : w.heap.size < wr.heap.size := (Array.getElem?_eq_some_iff.1 hI.a.res).1
      have HPf : Hid (parseF t = match gF 20 ((ps.map (·.1)).drop 0 ++ [[]]) with | none => none | some r => if r.s.headD [] = [] then some r.g else none) := hideIt (by unfold parseF; rw [if_neg hl, List.drop_zero, htx]; cases gF 20 (ps.map (·.1) ++ [[]]) <;> rfl)
      have HNe : Hid (∀ x ∈ ps.map (·.1), x ≠ []) := hideIt (fun x hx => by rw [← htx] at hx; exact (sgs_mem _ _ _ hx).1)
      clear hI hS hEnv htx HM
      go_wp2_with fail
      refine HG.out.mono ?_
      rintro y w2 htold
      clear HG
      rcases htold with ⟨r, v, a', bs, k1, rfl, k2, k3, k4, k5, k6, k7⟩ | ⟨k1, x, fl', a', rfl, k2, k3, k4⟩
      · have hr2 := (k7.block w.heap.size hwP (by simp)).trans HRes.out
        have HF2 := hideIt (HFr.out.app2 k7 (by simp))
        have HG2 := hideIt k5
        have HK1 := hideIt k1
        have HK3 := hideIt k3
        have hale := k2.le
        obtain ⟨ad, cap, s1, s2, s3⟩ := k2.sl
        have c2 := k2.c2
        obtain ⟨x3, c3⟩ := k2.c3
        obtain ⟨b, rfl, hbm⟩ := k5.ptr
        have hbG : ∀ y ∈ bs, y ≠ w.heap.size := fun y hy => by have := k6 y hy; omega
        have HBs := hideIt hbG
        have hPw2 : w.heap.size + 1 < w2.heap.size := World.block_lt_of_cell? w2 _ c2
        by_cases ha : a' < (ps.map (·.1)).length
        · obtain ⟨n, hn⟩ : ∃ n, (ps.map (·.1)).length - a' = n + 1 := ⟨(ps.map (·.1)).length - a' - 1, by omega⟩
          rw [hn] at s1
          have hgt0 : (0 : Int) < ((n + 1 : Nat) : Int) := by omega
          have hgt : decide ((0 : Int) < ((n + 1 : Nat) : Int)) = true := decide_eq_true hgt0
          clear hn
          have HNo : Hid (parseF t = none) := hideIt (by
            rw [HPf.out, HK1.out]
            simp only
            rw [← HK3.out, drop_at ha]
            show (if (ps.map (·.1))[a'] = [] then some r.g else none) = none
            rw [if_neg (HNe.out _ (List.getElem_mem ha))])
          have HFa := hideIt (pfail_any w2 (w.heap.size + 1) S (ps.map (·.1)) a' 0 3 k2)
          have HRes2 := hideIt hr2
          clear k1 k3 k5 k6 k7 hr2 c3 hbG
          go_wp2_with fail
          refine HFa.out.mono ?_
          rintro y w3 ⟨rfl, h3, hf3⟩
          clear HFa c2 s1
          have hr3 := (hf3.block w.heap.size (by omega) (by simp)).trans HRes2.out
          have HF3 := hideIt (HF2.out.app2 hf3 (by simp))
          have c2 : w3.cell? ⟨w.heap.size + 1, 2, none⟩ = some (.int .i64 3) := h3.c2
          obtain ⟨x3, c3⟩ := h3.c3
          clear h3 hf3
          obtain ⟨z0, z1⟩ : w3.cell? ⟨w.heap.size, 0, none⟩ = some (.int .i64 0) ∧ w3.cell? ⟨w.heap.size, 1, none⟩ = some (.int .i64 0) := ⟨by rw [cell_of_row _ _ _ _ _ _ hr3]; rfl, by rw [cell_of_row _ _ _ _ _ _ hr3]; rfl⟩
          have y0 := frozen_of_row w3 w.heap.size 0 _ 26 hr3
          have y1 := frozen_of_row w3 w.heap.size 1 _ 26 hr3
          clear hr3
          go_wp2_with fail
          go_region
          go_wp2
          have e0 : ((w3.setCell ⟨w.heap.size, 0, none⟩ (.int .i64 3)).setCell ⟨w.heap.size, 1, none⟩ (.int .i64 x3)).drew.cell? ⟨w.heap.size, 0, none⟩ = some (.int .i64 3) := (World.cell?_setCell_other _ _ _ _ (offN (by omega))).trans (World.cell?_setCell_same' _ _ _ (by rw [z0]; rfl))
          have e1 : ((w3.setCell ⟨w.heap.size, 0, none⟩ (.int .i64 3)).setCell ⟨w.heap.size, 1, none⟩ (.int .i64 x3)).drew.cell? ⟨w.heap.size, 1, none⟩ = some (.int .i64 x3) := World.cell?_setCell_same' _ _ _ (by rw [World.cell?_setCell_other _ _ _ _ (offN (by omega)), z1]; rfl)
          have hfs : Fr [w.heap.size] w3 ((w3.setCell ⟨w.heap.size, 0, none⟩ (.int .i64 3)).setCell ⟨w.heap.size, 1, none⟩ (.int .i64 x3)).drew := ((Fr.set _ _ _ (by simp)).trans (Fr.set _ _ _ (by simp))).trans (Fr.drewN _ _ 1)
          refine bodyPost_ret (results_tc rfl _ _ _ _ rfl (loadFt e0 e1)) rfl ?_
          exact ⟨HF3.out.app2 hfs (by simp), .inr ⟨HNo.out, some ⟨b, 0, none⟩, 3, x3, by decide, rfl⟩⟩
        · have hz : (ps.map (·.1)).length - a' = 0 := by omega
          rw [hz] at s1
          have HYes : Hid (parseF t = some r.g) := hideIt (by
            rw [HPf.out, HK1.out]
            simp only
            rw [← HK3.out, List.drop_eq_nil_of_le (by omega)]
            rfl)
          obtain ⟨z0, z1⟩ : w2.cell? ⟨w.heap.size, 0, none⟩ = some (.int .i64 0) ∧ w2.cell? ⟨w.heap.size, 1, none⟩ = some (.int .i64 0) := ⟨by rw [cell_of_row _ _ _ _ _ _ hr2]; rfl, by rw [cell_of_row _ _ _ _ _ _ hr2]; rfl⟩
          have y0 := frozen_of_row w2 w.heap.size 0 _ 26 hr2
          have y1 := frozen_of_row w2 w.heap.size 1 _ 26 hr2
          clear k1 k2 k3 k5 k6 k7 hr2 hbG hz
          go_wp2_with fail
          go_region
          go_wp2
          have e0 : ((w2.setCell ⟨w.heap.size, 0, none⟩ (.int .i64 0)).setCell ⟨w.heap.size, 1, none⟩ (.int .i64 x3)).drew.cell? ⟨w.heap.size, 0, none⟩ = some (.int .i64 0) := (World.cell?_setCell_other _ _ _ _ (offN (by omega))).trans (World.cell?_setCell_same' _ _ _ (by rw [z0]; rfl))
          have e1 : ((w2.setCell ⟨w.heap.size, 0, none⟩ (.int .i64 0)).setCell ⟨w.heap.size, 1, none⟩ (.int .i64 x3)).drew.cell? ⟨w.heap.size, 1, none⟩ = some (.int .i64 x3) := World.cell?_setCell_same' _ _ _ (by rw [World.cell?_setCell_other _ _ _ _ (offN (by omega)), z1]; rfl)
          have hfs : Fr [w.heap.size] w2 ((w2.setCell ⟨w.heap.size, 0, none⟩ (.int .i64 0)).setCell ⟨w.heap.size, 1, none⟩ (.int .i64 x3)).drew := ((Fr.set _ _ _ (by simp)).trans (Fr.set _ _ _ (by simp))).trans (Fr.drewN _ _ 1)
          refine bodyPost_ret (results_tc rfl _ _ _ _ rfl (loadFt e0 e1)) rfl ?_
          exact ⟨HF2.out.app2 hfs (by simp), .inl ⟨r.g, .pointer (some ⟨b, 0, none⟩), bs, x3, HYes.out, rfl, HG2.out.fr hfs (fun y hy => by simpa using HBs.out y hy)⟩⟩
      · have hr2 := (k4.block w.heap.size hwP (by simp)).trans HRes.out
        have HF2 := hideIt (HFr.out.app2 k4 (by simp))
        have HNo : Hid (parseF t = none) := hideIt (by rw [HPf.out, k1])
        have c2 := k3.c2
        have hb : (fl' == 0) = false := by simp [k2]
        obtain ⟨x3, c3⟩ := k3.c3
        obtain ⟨z0, z1⟩ : w2.cell? ⟨w.heap.size, 0, none⟩ = some (.int .i64 0) ∧ w2.cell? ⟨w.heap.size, 1, none⟩ = some (.int .i64 0) := ⟨by rw [cell_of_row _ _ _ _ _ _ hr2]; rfl, by rw [cell_of_row _ _ _ _ _ _ hr2]; rfl⟩
        have y0 := frozen_of_row w2 w.heap.size 0 _ 26 hr2
        have y1 := frozen_of_row w2 w.heap.size 1 _ 26 hr2
        clear k1 k3 k4 hr2
        go_wp2_with fail
        go_region
        go_wp2
        have e0 : ((w2.setCell ⟨w.heap.size, 0, none⟩ (.int .i64 fl')).setCell ⟨w.heap.size, 1, none⟩ (.int .i64 x3)).drew.cell? ⟨w.heap.size, 0, none⟩ = some (.int .i64 fl') := (World.cell?_setCell_other _ _ _ _ (offN (by omega))).trans (World.cell?_setCell_same' _ _ _ (by rw [z0]; rfl))
        have e1 : ((w2.setCell ⟨w.heap.size, 0, none⟩ (.int .i64 fl')).setCell ⟨w.heap.size, 1, none⟩ (.int .i64 x3)).drew.cell? ⟨w.heap.size, 1, none⟩ = some (.int .i64 x3) := World.cell?_setCell_same' _ _ _ (by rw [World.cell?_setCell_other _ _ _ _ (offN (by omega)), z1]; rfl)
        have hfs : Fr [w.heap.size] w2 ((w2.setCell ⟨w.heap.size, 0, none⟩ (.int .i64 fl')).setCell ⟨w.heap.size, 1, none⟩ (.int .i64 x3)).drew := ((Fr.set _ _ _ (by simp)).trans (Fr.set _ _ _ (by simp))).trans (Fr.drewN _ _ 1)
        refine bodyPost_ret (results_tc rfl _ _ _ _ rfl (loadFt e0 e1)) rfl ?_
        exact ⟨HF2.out.app2 hfs (by simp), .inr ⟨HNo.out, x, fl', x3, k2, rfl⟩⟩
    | succ k =>
      have hile : i ≤ t.length := by omega
      have hi1 : (i : Int) ≤ (t.length : Int) := by omega
      by_cases hilt : i < t.length
      · have hi2 : (i : Int) < (t.length : Int) := by omega
        have hps : i < (ba t).size := by omega
        obtain ⟨c, l, hcl⟩ : ∃ c l, t.drop i = c :: l := by
          cases h : t.drop i with
          | nil => have := congrArg List.length h; simp at this; omega
          | cons c l => exact ⟨c, l, rfl⟩
        have hget : ((ba t)[i]'hps).toNat = c.toNat := by
          have h1 : t[i]'hilt = c := by
            have := List.drop_eq_getElem_cons hilt
            rw [hcl] at this
            exact (List.cons.inj this).1.symm
          rw [← h1]; rfl
        have hl2 : t.drop (i + 1) = l := by
          have := List.drop_eq_getElem_cons hilt
          rw [hcl] at this
          exact (List.cons.inj this).2.symm
        have htx := hI.tx
        have hcu := hI.cu
        have hfewI := hI.few
        rw [hcl, dsF_cons, ← hl2] at htx
        have HTk := hideIt (take_more t i cur.length (by omega) c l hcl)
        clear hI hl2 hcl
        by_cases h32 : c = 32
        · subst h32
          rw [if_pos rfl] at htx
          have hget2 : ((ba t)[i]'hps).toNat = 32 := hget
          have HTx := hideIt htx
          clear htx hget hcu hfewI
          rcases hwv with ⟨hc, rfl⟩ | ⟨st, hc, rfl, hst⟩
          · subst hc
            have HN : Hid (GsI w (w.heap.size + 1) t wr ps kv (i + 1) []) := hideIt ⟨HM.out.a, by rw [HTx.out]; simp [emitD], by have := HM.out.few; simp at this ⊢; omega, by simp⟩
            go_wp2
            go_roundg k
            case measure => omega
            case rel => exact ⟨ps, kv, i + 1, [], by omega, by simp, .inl ⟨rfl, rfl⟩, fun _ => rfl, HN.out⟩
          · have c0 := HM.out.a.c0
            have hfz := HM.out.a.fz 0
            have hex : (ba t).extract st i = ba cur := by
              rw [ba_part]
              have h1 := HM.out.cu
              rw [show i - cur.length = st by omega] at h1
              rw [show i - st = cur.length by omega, ← h1]
            have hb1 : (0 : Int) ≤ (st : Int) := by omega
            have hb2 : (st : Int) ≤ (i : Int) := by omega
            have hfew := HM.out.few
            go_upto_region 16 with fail
            have HA0 : Hid (GsA w (w.heap.size + 1) t wr.drew ps kv) := hideIt (HM.out.a.drewN 1)
            have hPd : w.heap.size + 1 < wr.drew.heap.size := World.block_lt_of_cell? wr.drew _ HA0.out.c0
            refine wp_region_L (B := [15]) (S := fun _ => True) (T := fun Z => Z.cell? ⟨w.heap.size + 1, 0, none⟩ = some kv) (by kernel_rfl) ⟨trivial, HA0.out.c0⟩ (fun hHeld => ?_)
            refine wpAnyL_takeS (i := 0) (v := ?_) rfl (by kernel_rfl) (by kernel_rfl) (by kernel_rfl) (by kernel_rfl) (fun _ _ _ h => h) (Or.inl ⟨by rfl, ?_⟩) (by assumption) ?_
            rotate_left 1
            · intro wz sb
              go_simp
              all_goals with_reducible rfl
            simp only [Act.put, List.setIfInBounds_toArray, List.set_cons_zero, List.set_cons_succ, List.getElem_toArray, List.getElem_cons_zero]
            refine wpAnyL_takeS (i := 1) (v := ?_) rfl (by kernel_rfl) (by kernel_rfl) (by kernel_rfl) (by kernel_rfl) (fun _ _ _ h => h) (Or.inl ⟨by rfl, ?_⟩) (by assumption) ?_
            rotate_left 1
            · intro wz sb
              go_simp
              all_goals with_reducible rfl
            simp only [Act.put, List.setIfInBounds_toArray, List.set_cons_zero, List.set_cons_succ, List.getElem_toArray, List.getElem_cons_zero, List.getElem_cons_succ]
            refine wpAnyL_takeS (i := 2) (v := ?_) rfl (by kernel_rfl) (by kernel_rfl) (by kernel_rfl) (by kernel_rfl) (fun _ _ _ h => h) (Or.inl ⟨by rfl, ?_⟩) (by assumption) ?_
            rotate_left 1
            · intro wz sb
              go_simp
              all_goals with_reducible rfl
            simp only [Act.put, List.setIfInBounds_toArray, List.set_cons_zero, List.set_cons_succ, List.getElem_toArray, List.getElem_cons_zero, List.getElem_cons_succ]
            refine wpAnyL_takeS (i := 3) (v := ?_) rfl (by kernel_rfl) (by kernel_rfl) (by kernel_rfl) (by kernel_rfl) (fun _ _ _ h => h) (Or.inl ⟨by rfl, ?_⟩) (by assumption) ?_
            rotate_left 1
            · intro wz sb
              go_simp
              all_goals with_reducible rfl
            simp only [Act.put, List.setIfInBounds_toArray, List.set_cons_zero, List.set_cons_succ, List.getElem_toArray, List.getElem_cons_zero, List.getElem_cons_succ]
            refine wpAnyL_take [12, 15] (i := 4) (v := ?_) rfl (by kernel_rfl) (by kernel_rfl) (by kernel_rfl) (by kernel_rfl) (fun _ _ _ h => h) (Or.inl ⟨by rfl, ?_⟩) (by assumption) ?_
            rotate_left 1
            · intro wz sb
              have y4 := sb.2
              go_simp
              all_goals with_reducible rfl
            simp only [Act.put, List.setIfInBounds_toArray, List.set_cons_zero, List.set_cons_succ, List.getElem_toArray, List.getElem_cons_zero, List.getElem_cons_succ]
            refine wpAnyL_takeS (i := 5) (v := ?_) rfl (by kernel_rfl) (by kernel_rfl) (by kernel_rfl) (by kernel_rfl) (fun _ _ _ h => h) (Or.inl ⟨by rfl, ?_⟩) (by assumption) ?_
            rotate_left 1
            · intro wz sb
              go_simp
              all_goals with_reducible rfl
            simp only [Act.put, List.setIfInBounds_toArray, List.set_cons_zero, List.set_cons_succ, List.getElem_toArray, List.getElem_cons_zero, List.getElem_cons_succ]
            refine wpAnyL_takeS (i := 6) (v := ?_) rfl (by kernel_rfl) (by kernel_rfl) (by kernel_rfl) (by kernel_rfl) (fun _ _ _ h => h) (Or.inl ⟨by rfl, ?_⟩) (by assumption) ?_
            rotate_left 1
            · intro wz sb
              go_simp
              all_goals with_reducible rfl
            simp only [Act.put, List.setIfInBounds_toArray, List.set_cons_zero, List.set_cons_succ, List.getElem_toArray, List.getElem_cons_zero, List.getElem_cons_succ]
            refine wpAnyL_takeS (i := 7) (v := ?_) rfl (by kernel_rfl) (by kernel_rfl) (by kernel_rfl) (by kernel_rfl) (fun _ _ _ h => h) (Or.inl ⟨by rfl, ?_⟩) (by assumption) ?_
            rotate_left 1
            · intro wz sb
              go_simp
              all_goals with_reducible rfl
            simp only [Act.put, List.setIfInBounds_toArray, List.set_cons_zero, List.set_cons_succ, List.getElem_toArray, List.getElem_cons_zero, List.getElem_cons_succ]
            refine wpAnyL_takeS (i := 8) (v := ?_) rfl (by kernel_rfl) (by kernel_rfl) (by kernel_rfl) (by kernel_rfl) (fun _ _ _ h => h) (Or.inl ⟨by rfl, ?_⟩) (by assumption) ?_
            rotate_left 1
            · intro wz sb
              go_simp
              all_goals with_reducible rfl
            simp only [Act.put, List.setIfInBounds_toArray, List.set_cons_zero, List.set_cons_succ, List.getElem_toArray, List.getElem_cons_zero, List.getElem_cons_succ]
            refine wpAnyL_takeS (i := 9) (v := ?_) rfl (by kernel_rfl) (by kernel_rfl) (by kernel_rfl) (by kernel_rfl) (fun _ _ _ h => h) (Or.inl ⟨by rfl, ?_⟩) (by assumption) ?_
            rotate_left 1
            · intro wz sb
              go_simp
              all_goals with_reducible rfl
            simp only [Act.put, List.setIfInBounds_toArray, List.set_cons_zero, List.set_cons_succ, List.getElem_toArray, List.getElem_cons_zero, List.getElem_cons_succ]
            refine wpAnyL_takeS (i := 10) (v := ?_) rfl (by kernel_rfl) (by kernel_rfl) (by kernel_rfl) (by kernel_rfl) (fun _ _ _ h => h) (Or.inl ⟨by rfl, ?_⟩) (by assumption) ?_
            rotate_left 1
            · intro wz sb
              go_simp
              all_goals with_reducible rfl
            simp only [Act.put, List.setIfInBounds_toArray, List.set_cons_zero, List.set_cons_succ, List.getElem_toArray, List.getElem_cons_zero, List.getElem_cons_succ]
            generalize wr.drew = Y0 at *
            obtain ⟨g, cap, Y8, hrun, ho8, hg8, _, hf8⟩ := sign_append Y0 (w.heap.size + 1 + 1) kv ps.length (sgCs ps) (ba cur) (st : Nat) HA0.out.row (by omega) (by omega)
            have HPut := hideIt (HA0.out.put (s := cur) (k := st) hg8 ho8 hf8)
            have hkb : Y8.heap[w.heap.size + 1]? = Y0.heap[w.heap.size + 1]? := hf8.block _ hPd (fun e => by
              have e2 : Value.ownBlock kv = some (w.heap.size + 1) := by simpa using e
              have := (World.ownsRow.lt HA0.out.row _ e2).1
              omega)
            have q8 := (World.cell?_of_block (a := ⟨w.heap.size + 1, 0, none⟩) hkb).trans HA0.out.c0
            have z8 := (World.frozen?_of_block (a := ⟨w.heap.size + 1, 0, none⟩) hkb).trans (HA0.out.fz 0)
            have q7 := (World.cell?_alloc_lt Y0 (.cells #[.string (ba cur), .int .i64 (st : Nat)] 58) ⟨w.heap.size + 1, 0, none⟩ hPd).trans HA0.out.c0
            clear ho8 hf8 hkb c0 hfz
            refine wpAnyL_ready (rs := [11]) (by kernel_rfl) (by simp) (AllReadyL.cons rfl (fun Q hQ => ?_) AllReadyL.nil)
            go_simp
            refine hQ.out _ _ ⟨trivial, q7⟩ (fun _ => ?_)
            clear hQ Q
            refine wpAnyL_ready (rs := [12]) (by kernel_rfl) (by simp) (AllReadyL.cons rfl (fun Q hQ => ?_) AllReadyL.nil)
            refine step_append_run (by rfl) _ _ 54 rfl _ _ _ Y8 rfl rfl hrun ?_
            refine hQ.out _ _ ⟨trivial, q8⟩ (fun _ => ?_)
            clear hQ Q
            simp only [Act.put, List.setIfInBounds_toArray, List.set_cons_zero, List.set_cons_succ, List.getElem_toArray, List.getElem_cons_zero, List.getElem_cons_succ]
            refine wpAnyL_takeS (i := 13) (v := ?_) rfl (by kernel_rfl) (by kernel_rfl) (by kernel_rfl) (by kernel_rfl) (fun _ _ _ h => h) (Or.inl ⟨by rfl, ?_⟩) (by assumption) ?_
            rotate_left 1
            · intro wz sb
              go_simp
              all_goals with_reducible rfl
            simp only [Act.put, List.setIfInBounds_toArray, List.set_cons_zero, List.set_cons_succ, List.getElem_toArray, List.getElem_cons_zero, List.getElem_cons_succ]
            refine wpAnyL_takeS (i := 14) (v := ?_) rfl (by kernel_rfl) (by kernel_rfl) (by kernel_rfl) (by kernel_rfl) (fun _ _ _ h => h) (Or.inl ⟨by rfl, ?_⟩) (by assumption) ?_
            rotate_left 1
            · intro wz sb
              go_simp
              all_goals with_reducible rfl
            simp only [Act.put, List.setIfInBounds_toArray, List.set_cons_zero, List.set_cons_succ, List.getElem_toArray, List.getElem_cons_zero, List.getElem_cons_succ]
            refine wpAnyL_ready (rs := [15]) (by kernel_rfl) (by simp) (AllReadyL.last rfl (by kernel_rfl) (fun Q hQ => ?_) AllReadyL.nil)
            go_simp
            refine hQ.out _ _ trivial (fun _ => ?_)
            clear hQ Q
            refine wpAnyL_done (by kernel_rfl) ?_ _
            clear hrun q7 q8 z8
            generalize Y8.setCell ⟨w.heap.size + 1, 0, none⟩ (.slice (some ⟨g, 0, none⟩) (ps.length + 1) cap) = Y9 at *
            have HN : Hid (GsI w (w.heap.size + 1) t Y9 (ps ++ [(cur, st)]) (.slice (some ⟨g, 0, none⟩) (ps.length + 1) cap) (i + 1) []) := hideIt ⟨HPut.out, by rw [HTx.out]; simp [emitD, hc], by have := List.length_pos_iff.2 hc; simp; omega, by simp⟩
            go_wp2
            go_roundg k
            case measure => omega
            case rel => exact ⟨_, _, i + 1, [], by omega, by simp, .inl ⟨rfl, rfl⟩, fun _ => rfl, HN.out⟩
        · rw [if_neg h32] at htx
          by_cases h40 : c = 40
          · subst h40
            rw [if_pos (by decide)] at htx
            have hget2 : ((ba t)[i]'hps).toNat = 40 := hget
            have HTx := hideIt htx
            have HFew := hideIt hfewI
            clear htx hget hcu hfewI
            rcases hwv with ⟨hc, rfl⟩ | ⟨st, hc, rfl, hst⟩
            · subst hc
              obtain ⟨a8, c8, hkv⟩ := some_of_row HM.out.a.row
              subst hkv
              have HA := hideIt HM.out.a
              obtain ⟨g2, cap2, Y18, hrun2, ho2, hg2, _, hf2⟩ := sign_append wr (w.heap.size + 1 + 1) (.slice a8 ps.length c8) (ps).length (sgCs (ps)) (Utf8.encode 40) (i : Nat) HA.out.row (Nat.succ_le_of_lt (World.block_lt_of_cell? wr _ HA.out.c0)) (by have := HFew.out; simp at this ⊢; omega)
              have HRun2 := hideIt hrun2
              rw [enc_40] at ho2
              have m0 := HA.out.c0
              have HPut2 := hideIt (HA.out.put (s := [40]) (k := i) hg2 ho2 hf2)
              have hkb2 : Y18.heap[w.heap.size + 1]? = (wr).heap[w.heap.size + 1]? := hf2.block _ (World.block_lt_of_cell? wr _ HA.out.c0) (fun e => by
                have e2 : Value.ownBlock (.slice a8 ps.length c8) = some (w.heap.size + 1) := by simpa using e
                have := (World.ownsRow.lt HA.out.row _ e2).1
                omega)
              have m8 := (World.cell?_of_block (a := ⟨w.heap.size + 1, 0, none⟩) hkb2).trans HA.out.c0
              have mz := (World.frozen?_of_block (a := ⟨w.heap.size + 1, 0, none⟩) hkb2).trans (HA.out.fz 0)
              clear hrun2 ho2 hf2 hkb2
              have HN : Hid (GsI w (w.heap.size + 1) t (Y18.setCell ⟨w.heap.size + 1, 0, none⟩ (.slice (some ⟨g2, 0, none⟩) (ps.length + 1) cap2)) (ps ++ [([40], i)]) (.slice (some ⟨g2, 0, none⟩) (ps.length + 1) cap2) (i + 1) []) := hideIt ⟨HPut2.out, by rw [HTx.out]; simp [emitD], by have := HFew.out; simp at this ⊢; omega, by simp⟩
              go_wp2_with (at_builtin; refine Lib.wpList_append_run _ rfl _ _ 54 54 rfl _ _ rfl rfl _ Y18 HRun2.out ?_)
              generalize Y18.setCell ⟨w.heap.size + 1, 0, none⟩ (.slice (some ⟨g2, 0, none⟩) (ps.length + 1) cap2) = Y19 at *
              go_wp2
              go_roundg k
              case measure => omega
              case rel => exact ⟨_, _, i + 1, [], by omega, by simp, .inl ⟨rfl, rfl⟩, fun _ => rfl, HN.out⟩
            · have HPs : Hid ((ps ++ [(cur, st)]).length + 0 ≤ i) := hideIt (by have := List.length_pos_iff.2 hc; have := HFew.out; simp; omega)
              have c0 := HM.out.a.c0
              have hfz := HM.out.a.fz 0
              have hex : (ba t).extract st i = ba cur := by
                rw [ba_part]
                have h1 := HM.out.cu
                rw [show i - cur.length = st by omega] at h1
                rw [show i - st = cur.length by omega, ← h1]
              have hb1 : (0 : Int) ≤ (st : Int) := by omega
              have hb2 : (st : Int) ≤ (i : Int) := by omega
              have hfew := HM.out.few
              go_upto_region 16 with fail
              have HA0 : Hid (GsA w (w.heap.size + 1) t wr.drew ps kv) := hideIt (HM.out.a.drewN 1)
              have hPd : w.heap.size + 1 < wr.drew.heap.size := World.block_lt_of_cell? wr.drew _ HA0.out.c0
              refine wp_region_L (B := [15]) (S := fun _ => True) (T := fun Z => Z.cell? ⟨w.heap.size + 1, 0, none⟩ = some kv) (by kernel_rfl) ⟨trivial, HA0.out.c0⟩ (fun hHeld => ?_)
              refine wpAnyL_takeS (i := 0) (v := ?_) rfl (by kernel_rfl) (by kernel_rfl) (by kernel_rfl) (by kernel_rfl) (fun _ _ _ h => h) (Or.inl ⟨by rfl, ?_⟩) (by assumption) ?_
              rotate_left 1
              · intro wz sb
                go_simp
                all_goals with_reducible rfl
              simp only [Act.put, List.setIfInBounds_toArray, List.set_cons_zero, List.set_cons_succ, List.getElem_toArray, List.getElem_cons_zero]
              refine wpAnyL_takeS (i := 1) (v := ?_) rfl (by kernel_rfl) (by kernel_rfl) (by kernel_rfl) (by kernel_rfl) (fun _ _ _ h => h) (Or.inl ⟨by rfl, ?_⟩) (by assumption) ?_
              rotate_left 1
              · intro wz sb
                go_simp
                all_goals with_reducible rfl
              simp only [Act.put, List.setIfInBounds_toArray, List.set_cons_zero, List.set_cons_succ, List.getElem_toArray, List.getElem_cons_zero, List.getElem_cons_succ]
              refine wpAnyL_takeS (i := 2) (v := ?_) rfl (by kernel_rfl) (by kernel_rfl) (by kernel_rfl) (by kernel_rfl) (fun _ _ _ h => h) (Or.inl ⟨by rfl, ?_⟩) (by assumption) ?_
              rotate_left 1
              · intro wz sb
                go_simp
                all_goals with_reducible rfl
              simp only [Act.put, List.setIfInBounds_toArray, List.set_cons_zero, List.set_cons_succ, List.getElem_toArray, List.getElem_cons_zero, List.getElem_cons_succ]
              refine wpAnyL_takeS (i := 3) (v := ?_) rfl (by kernel_rfl) (by kernel_rfl) (by kernel_rfl) (by kernel_rfl) (fun _ _ _ h => h) (Or.inl ⟨by rfl, ?_⟩) (by assumption) ?_
              rotate_left 1
              · intro wz sb
                go_simp
                all_goals with_reducible rfl
              simp only [Act.put, List.setIfInBounds_toArray, List.set_cons_zero, List.set_cons_succ, List.getElem_toArray, List.getElem_cons_zero, List.getElem_cons_succ]
              refine wpAnyL_take [12, 15] (i := 4) (v := ?_) rfl (by kernel_rfl) (by kernel_rfl) (by kernel_rfl) (by kernel_rfl) (fun _ _ _ h => h) (Or.inl ⟨by rfl, ?_⟩) (by assumption) ?_
              rotate_left 1
              · intro wz sb
                have y4 := sb.2
                go_simp
                all_goals with_reducible rfl
              simp only [Act.put, List.setIfInBounds_toArray, List.set_cons_zero, List.set_cons_succ, List.getElem_toArray, List.getElem_cons_zero, List.getElem_cons_succ]
              refine wpAnyL_takeS (i := 5) (v := ?_) rfl (by kernel_rfl) (by kernel_rfl) (by kernel_rfl) (by kernel_rfl) (fun _ _ _ h => h) (Or.inl ⟨by rfl, ?_⟩) (by assumption) ?_
              rotate_left 1
              · intro wz sb
                go_simp
                all_goals with_reducible rfl
              simp only [Act.put, List.setIfInBounds_toArray, List.set_cons_zero, List.set_cons_succ, List.getElem_toArray, List.getElem_cons_zero, List.getElem_cons_succ]
              refine wpAnyL_takeS (i := 6) (v := ?_) rfl (by kernel_rfl) (by kernel_rfl) (by kernel_rfl) (by kernel_rfl) (fun _ _ _ h => h) (Or.inl ⟨by rfl, ?_⟩) (by assumption) ?_
              rotate_left 1
              · intro wz sb
                go_simp
                all_goals with_reducible rfl
              simp only [Act.put, List.setIfInBounds_toArray, List.set_cons_zero, List.set_cons_succ, List.getElem_toArray, List.getElem_cons_zero, List.getElem_cons_succ]
              refine wpAnyL_takeS (i := 7) (v := ?_) rfl (by kernel_rfl) (by kernel_rfl) (by kernel_rfl) (by kernel_rfl) (fun _ _ _ h => h) (Or.inl ⟨by rfl, ?_⟩) (by assumption) ?_
              rotate_left 1
              · intro wz sb
                go_simp
                all_goals with_reducible rfl
              simp only [Act.put, List.setIfInBounds_toArray, List.set_cons_zero, List.set_cons_succ, List.getElem_toArray, List.getElem_cons_zero, List.getElem_cons_succ]
              refine wpAnyL_takeS (i := 8) (v := ?_) rfl (by kernel_rfl) (by kernel_rfl) (by kernel_rfl) (by kernel_rfl) (fun _ _ _ h => h) (Or.inl ⟨by rfl, ?_⟩) (by assumption) ?_
              rotate_left 1
              · intro wz sb
                go_simp
                all_goals with_reducible rfl
              simp only [Act.put, List.setIfInBounds_toArray, List.set_cons_zero, List.set_cons_succ, List.getElem_toArray, List.getElem_cons_zero, List.getElem_cons_succ]
              refine wpAnyL_takeS (i := 9) (v := ?_) rfl (by kernel_rfl) (by kernel_rfl) (by kernel_rfl) (by kernel_rfl) (fun _ _ _ h => h) (Or.inl ⟨by rfl, ?_⟩) (by assumption) ?_
              rotate_left 1
              · intro wz sb
                go_simp
                all_goals with_reducible rfl
              simp only [Act.put, List.setIfInBounds_toArray, List.set_cons_zero, List.set_cons_succ, List.getElem_toArray, List.getElem_cons_zero, List.getElem_cons_succ]
              refine wpAnyL_takeS (i := 10) (v := ?_) rfl (by kernel_rfl) (by kernel_rfl) (by kernel_rfl) (by kernel_rfl) (fun _ _ _ h => h) (Or.inl ⟨by rfl, ?_⟩) (by assumption) ?_
              rotate_left 1
              · intro wz sb
                go_simp
                all_goals with_reducible rfl
              simp only [Act.put, List.setIfInBounds_toArray, List.set_cons_zero, List.set_cons_succ, List.getElem_toArray, List.getElem_cons_zero, List.getElem_cons_succ]
              generalize wr.drew = Y0 at *
              obtain ⟨g, cap, Y8, hrun, ho8, hg8, _, hf8⟩ := sign_append Y0 (w.heap.size + 1 + 1) kv ps.length (sgCs ps) (ba cur) (st : Nat) HA0.out.row (by omega) (by omega)
              have HPut := hideIt (HA0.out.put (s := cur) (k := st) hg8 ho8 hf8)
              have hkb : Y8.heap[w.heap.size + 1]? = Y0.heap[w.heap.size + 1]? := hf8.block _ hPd (fun e => by
                have e2 : Value.ownBlock kv = some (w.heap.size + 1) := by simpa using e
                have := (World.ownsRow.lt HA0.out.row _ e2).1
                omega)
              have q8 := (World.cell?_of_block (a := ⟨w.heap.size + 1, 0, none⟩) hkb).trans HA0.out.c0
              have z8 := (World.frozen?_of_block (a := ⟨w.heap.size + 1, 0, none⟩) hkb).trans (HA0.out.fz 0)
              have q7 := (World.cell?_alloc_lt Y0 (.cells #[.string (ba cur), .int .i64 (st : Nat)] 58) ⟨w.heap.size + 1, 0, none⟩ hPd).trans HA0.out.c0
              clear ho8 hf8 hkb c0 hfz
              refine wpAnyL_ready (rs := [11]) (by kernel_rfl) (by simp) (AllReadyL.cons rfl (fun Q hQ => ?_) AllReadyL.nil)
              go_simp
              refine hQ.out _ _ ⟨trivial, q7⟩ (fun _ => ?_)
              clear hQ Q
              refine wpAnyL_ready (rs := [12]) (by kernel_rfl) (by simp) (AllReadyL.cons rfl (fun Q hQ => ?_) AllReadyL.nil)
              refine step_append_run (by rfl) _ _ 54 rfl _ _ _ Y8 rfl rfl hrun ?_
              refine hQ.out _ _ ⟨trivial, q8⟩ (fun _ => ?_)
              clear hQ Q
              simp only [Act.put, List.setIfInBounds_toArray, List.set_cons_zero, List.set_cons_succ, List.getElem_toArray, List.getElem_cons_zero, List.getElem_cons_succ]
              refine wpAnyL_takeS (i := 13) (v := ?_) rfl (by kernel_rfl) (by kernel_rfl) (by kernel_rfl) (by kernel_rfl) (fun _ _ _ h => h) (Or.inl ⟨by rfl, ?_⟩) (by assumption) ?_
              rotate_left 1
              · intro wz sb
                go_simp
                all_goals with_reducible rfl
              simp only [Act.put, List.setIfInBounds_toArray, List.set_cons_zero, List.set_cons_succ, List.getElem_toArray, List.getElem_cons_zero, List.getElem_cons_succ]
              refine wpAnyL_takeS (i := 14) (v := ?_) rfl (by kernel_rfl) (by kernel_rfl) (by kernel_rfl) (by kernel_rfl) (fun _ _ _ h => h) (Or.inl ⟨by rfl, ?_⟩) (by assumption) ?_
              rotate_left 1
              · intro wz sb
                go_simp
                all_goals with_reducible rfl
              simp only [Act.put, List.setIfInBounds_toArray, List.set_cons_zero, List.set_cons_succ, List.getElem_toArray, List.getElem_cons_zero, List.getElem_cons_succ]
              refine wpAnyL_ready (rs := [15]) (by kernel_rfl) (by simp) (AllReadyL.last rfl (by kernel_rfl) (fun Q hQ => ?_) AllReadyL.nil)
              go_simp
              refine hQ.out _ _ trivial (fun _ => ?_)
              clear hQ Q
              refine wpAnyL_done (by kernel_rfl) ?_ _
              clear hrun q7 q8 z8
              generalize Y8.setCell ⟨w.heap.size + 1, 0, none⟩ (.slice (some ⟨g, 0, none⟩) (ps.length + 1) cap) = Y9 at *
              have HFew := HPs
              obtain ⟨g2, cap2, Y18, hrun2, ho2, hg2, _, hf2⟩ := sign_append Y9 (w.heap.size + 1 + 1) (.slice (some ⟨g, 0, none⟩) (ps.length + 1) cap) ((ps ++ [(cur, st)])).length (sgCs ((ps ++ [(cur, st)]))) (Utf8.encode 40) (i : Nat) HPut.out.row (Nat.succ_le_of_lt (World.block_lt_of_cell? Y9 _ HPut.out.c0)) (by have := HFew.out; simp at this ⊢; omega)
              have HRun2 := hideIt hrun2
              rw [enc_40] at ho2
              have m0 := HPut.out.c0
              have HPut2 := hideIt (HPut.out.put (s := [40]) (k := i) hg2 ho2 hf2)
              have hkb2 : Y18.heap[w.heap.size + 1]? = (Y9).heap[w.heap.size + 1]? := hf2.block _ (World.block_lt_of_cell? Y9 _ HPut.out.c0) (fun e => by
                have e2 : Value.ownBlock (.slice (some ⟨g, 0, none⟩) (ps.length + 1) cap) = some (w.heap.size + 1) := by simpa using e
                have := (World.ownsRow.lt HPut.out.row _ e2).1
                omega)
              have m8 := (World.cell?_of_block (a := ⟨w.heap.size + 1, 0, none⟩) hkb2).trans HPut.out.c0
              have mz := (World.frozen?_of_block (a := ⟨w.heap.size + 1, 0, none⟩) hkb2).trans (HPut.out.fz 0)
              clear hrun2 ho2 hf2 hkb2
              have hlp : (ps ++ [(cur, st)]).length = ps.length + 1 := by simp
              rw [hlp] at HRun2 HPut2
              have HN : Hid (GsI w (w.heap.size + 1) t (Y18.setCell ⟨w.heap.size + 1, 0, none⟩ (.slice (some ⟨g2, 0, none⟩) (ps.length + 1 + 1) cap2)) (ps ++ [(cur, st)] ++ [([40], i)]) (.slice (some ⟨g2, 0, none⟩) (ps.length + 1 + 1) cap2) (i + 1) []) := hideIt ⟨HPut2.out, by rw [HTx.out]; simp [emitD, hc], by have := HPs.out; simp at this ⊢; omega, by simp⟩
              clear hlp
              go_wp2_with (at_builtin; refine Lib.wpList_append_run _ rfl _ _ 54 54 rfl _ _ rfl rfl _ Y18 HRun2.out ?_)
              generalize Y18.setCell ⟨w.heap.size + 1, 0, none⟩ (.slice (some ⟨g2, 0, none⟩) (ps.length + 1 + 1) cap2) = Y19 at *
              go_wp2
              go_roundg k
              case measure => omega
              case rel => exact ⟨_, _, i + 1, [], by omega, by simp, .inl ⟨rfl, rfl⟩, fun _ => rfl, HN.out⟩
          by_cases h41 : c = 41
          · subst h41
            rw [if_pos (by decide)] at htx
            have hget2 : ((ba t)[i]'hps).toNat = 41 := hget
            have HTx := hideIt htx
            have HFew := hideIt hfewI
            clear htx hget hcu hfewI
            rcases hwv with ⟨hc, rfl⟩ | ⟨st, hc, rfl, hst⟩
            · subst hc
              obtain ⟨a8, c8, hkv⟩ := some_of_row HM.out.a.row
              subst hkv
              have HA := hideIt HM.out.a
              obtain ⟨g2, cap2, Y18, hrun2, ho2, hg2, _, hf2⟩ := sign_append wr (w.heap.size + 1 + 1) (.slice a8 ps.length c8) (ps).length (sgCs (ps)) (Utf8.encode 41) (i : Nat) HA.out.row (Nat.succ_le_of_lt (World.block_lt_of_cell? wr _ HA.out.c0)) (by have := HFew.out; simp at this ⊢; omega)
              have HRun2 := hideIt hrun2
              rw [enc_41] at ho2
              have m0 := HA.out.c0
              have HPut2 := hideIt (HA.out.put (s := [41]) (k := i) hg2 ho2 hf2)
              have hkb2 : Y18.heap[w.heap.size + 1]? = (wr).heap[w.heap.size + 1]? := hf2.block _ (World.block_lt_of_cell? wr _ HA.out.c0) (fun e => by
                have e2 : Value.ownBlock (.slice a8 ps.length c8) = some (w.heap.size + 1) := by simpa using e
                have := (World.ownsRow.lt HA.out.row _ e2).1
                omega)
              have m8 := (World.cell?_of_block (a := ⟨w.heap.size + 1, 0, none⟩) hkb2).trans HA.out.c0
              have mz := (World.frozen?_of_block (a := ⟨w.heap.size + 1, 0, none⟩) hkb2).trans (HA.out.fz 0)
              clear hrun2 ho2 hf2 hkb2
              have HN : Hid (GsI w (w.heap.size + 1) t (Y18.setCell ⟨w.heap.size + 1, 0, none⟩ (.slice (some ⟨g2, 0, none⟩) (ps.length + 1) cap2)) (ps ++ [([41], i)]) (.slice (some ⟨g2, 0, none⟩) (ps.length + 1) cap2) (i + 1) []) := hideIt ⟨HPut2.out, by rw [HTx.out]; simp [emitD], by have := HFew.out; simp at this ⊢; omega, by simp⟩
              go_wp2_with (at_builtin; refine Lib.wpList_append_run _ rfl _ _ 54 54 rfl _ _ rfl rfl _ Y18 HRun2.out ?_)
              generalize Y18.setCell ⟨w.heap.size + 1, 0, none⟩ (.slice (some ⟨g2, 0, none⟩) (ps.length + 1) cap2) = Y19 at *
              go_wp2
              go_roundg k
              case measure => omega
              case rel => exact ⟨_, _, i + 1, [], by omega, by simp, .inl ⟨rfl, rfl⟩, fun _ => rfl, HN.out⟩
            · have HPs : Hid ((ps ++ [(cur, st)]).length + 0 ≤ i) := hideIt (by have := List.length_pos_iff.2 hc; have := HFew.out; simp; omega)
              have c0 := HM.out.a.c0
              have hfz := HM.out.a.fz 0
              have hex : (ba t).extract st i = ba cur := by
                rw [ba_part]
                have h1 := HM.out.cu
                rw [show i - cur.length = st by omega] at h1
                rw [show i - st = cur.length by omega, ← h1]
              have hb1 : (0 : Int) ≤ (st : Int) := by omega
              have hb2 : (st : Int) ≤ (i : Int) := by omega
              have hfew := HM.out.few
              go_upto_region 16 with fail
              have HA0 : Hid (GsA w (w.heap.size + 1) t wr.drew ps kv) := hideIt (HM.out.a.drewN 1)
              have hPd : w.heap.size + 1 < wr.drew.heap.size := World.block_lt_of_cell? wr.drew _ HA0.out.c0
              refine wp_region_L (B := [15]) (S := fun _ => True) (T := fun Z => Z.cell? ⟨w.heap.size + 1, 0, none⟩ = some kv) (by kernel_rfl) ⟨trivial, HA0.out.c0⟩ (fun hHeld => ?_)
              refine wpAnyL_takeS (i := 0) (v := ?_) rfl (by kernel_rfl) (by kernel_rfl) (by kernel_rfl) (by kernel_rfl) (fun _ _ _ h => h) (Or.inl ⟨by rfl, ?_⟩) (by assumption) ?_
              rotate_left 1
              · intro wz sb
                go_simp
                all_goals with_reducible rfl
              simp only [Act.put, List.setIfInBounds_toArray, List.set_cons_zero, List.set_cons_succ, List.getElem_toArray, List.getElem_cons_zero]
              refine wpAnyL_takeS (i := 1) (v := ?_) rfl (by kernel_rfl) (by kernel_rfl) (by kernel_rfl) (by kernel_rfl) (fun _ _ _ h => h) (Or.inl ⟨by rfl, ?_⟩) (by assumption) ?_
              rotate_left 1
              · intro wz sb
                go_simp
                all_goals with_reducible rfl
              simp only [Act.put, List.setIfInBounds_toArray, List.set_cons_zero, List.set_cons_succ, List.getElem_toArray, List.getElem_cons_zero, List.getElem_cons_succ]
              refine wpAnyL_takeS (i := 2) (v := ?_) rfl (by kernel_rfl) (by kernel_rfl) (by kernel_rfl) (by kernel_rfl) (fun _ _ _ h => h) (Or.inl ⟨by rfl, ?_⟩) (by assumption) ?_
              rotate_left 1
              · intro wz sb
                go_simp
                all_goals with_reducible rfl
              simp only [Act.put, List.setIfInBounds_toArray, List.set_cons_zero, List.set_cons_succ, List.getElem_toArray, List.getElem_cons_zero, List.getElem_cons_succ]
              refine wpAnyL_takeS (i := 3) (v := ?_) rfl (by kernel_rfl) (by kernel_rfl) (by kernel_rfl) (by kernel_rfl) (fun _ _ _ h => h) (Or.inl ⟨by rfl, ?_⟩) (by assumption) ?_
              rotate_left 1
              · intro wz sb
                go_simp
                all_goals with_reducible rfl
              simp only [Act.put, List.setIfInBounds_toArray, List.set_cons_zero, List.set_cons_succ, List.getElem_toArray, List.getElem_cons_zero, List.getElem_cons_succ]
              refine wpAnyL_take [12, 15] (i := 4) (v := ?_) rfl (by kernel_rfl) (by kernel_rfl) (by kernel_rfl) (by kernel_rfl) (fun _ _ _ h => h) (Or.inl ⟨by rfl, ?_⟩) (by assumption) ?_
              rotate_left 1
              · intro wz sb
                have y4 := sb.2
                go_simp
                all_goals with_reducible rfl
              simp only [Act.put, List.setIfInBounds_toArray, List.set_cons_zero, List.set_cons_succ, List.getElem_toArray, List.getElem_cons_zero, List.getElem_cons_succ]
              refine wpAnyL_takeS (i := 5) (v := ?_) rfl (by kernel_rfl) (by kernel_rfl) (by kernel_rfl) (by kernel_rfl) (fun _ _ _ h => h) (Or.inl ⟨by rfl, ?_⟩) (by assumption) ?_
              rotate_left 1
              · intro wz sb
                go_simp
                all_goals with_reducible rfl
              simp only [Act.put, List.setIfInBounds_toArray, List.set_cons_zero, List.set_cons_succ, List.getElem_toArray, List.getElem_cons_zero, List.getElem_cons_succ]
              refine wpAnyL_takeS (i := 6) (v := ?_) rfl (by kernel_rfl) (by kernel_rfl) (by kernel_rfl) (by kernel_rfl) (fun _ _ _ h => h) (Or.inl ⟨by rfl, ?_⟩) (by assumption) ?_
              rotate_left 1
              · intro wz sb
                go_simp
                all_goals with_reducible rfl
              simp only [Act.put, List.setIfInBounds_toArray, List.set_cons_zero, List.set_cons_succ, List.getElem_toArray, List.getElem_cons_zero, List.getElem_cons_succ]
              refine wpAnyL_takeS (i := 7) (v := ?_) rfl (by kernel_rfl) (by kernel_rfl) (by kernel_rfl) (by kernel_rfl) (fun _ _ _ h => h) (Or.inl ⟨by rfl, ?_⟩) (by assumption) ?_
              rotate_left 1
              · intro wz sb
                go_simp
                all_goals with_reducible rfl
              simp only [Act.put, List.setIfInBounds_toArray, List.set_cons_zero, List.set_cons_succ, List.getElem_toArray, List.getElem_cons_zero, List.getElem_cons_succ]
              refine wpAnyL_takeS (i := 8) (v := ?_) rfl (by kernel_rfl) (by kernel_rfl) (by kernel_rfl) (by kernel_rfl) (fun _ _ _ h => h) (Or.inl ⟨by rfl, ?_⟩) (by assumption) ?_
              rotate_left 1
              · intro wz sb
                go_simp
                all_goals with_reducible rfl
              simp only [Act.put, List.setIfInBounds_toArray, List.set_cons_zero, List.set_cons_succ, List.getElem_toArray, List.getElem_cons_zero, List.getElem_cons_succ]
              refine wpAnyL_takeS (i := 9) (v := ?_) rfl (by kernel_rfl) (by kernel_rfl) (by kernel_rfl) (by kernel_rfl) (fun _ _ _ h => h) (Or.inl ⟨by rfl, ?_⟩) (by assumption) ?_
              rotate_left 1
              · intro wz sb
                go_simp
                all_goals with_reducible rfl
              simp only [Act.put, List.setIfInBounds_toArray, List.set_cons_zero, List.set_cons_succ, List.getElem_toArray, List.getElem_cons_zero, List.getElem_cons_succ]
              refine wpAnyL_takeS (i := 10) (v := ?_) rfl (by kernel_rfl) (by kernel_rfl) (by kernel_rfl) (by kernel_rfl) (fun _ _ _ h => h) (Or.inl ⟨by rfl, ?_⟩) (by assumption) ?_
              rotate_left 1
              · intro wz sb
                go_simp
                all_goals with_reducible rfl
              simp only [Act.put, List.setIfInBounds_toArray, List.set_cons_zero, List.set_cons_succ, List.getElem_toArray, List.getElem_cons_zero, List.getElem_cons_succ]
              generalize wr.drew = Y0 at *
              obtain ⟨g, cap, Y8, hrun, ho8, hg8, _, hf8⟩ := sign_append Y0 (w.heap.size + 1 + 1) kv ps.length (sgCs ps) (ba cur) (st : Nat) HA0.out.row (by omega) (by omega)
              have HPut := hideIt (HA0.out.put (s := cur) (k := st) hg8 ho8 hf8)
              have hkb : Y8.heap[w.heap.size + 1]? = Y0.heap[w.heap.size + 1]? := hf8.block _ hPd (fun e => by
                have e2 : Value.ownBlock kv = some (w.heap.size + 1) := by simpa using e
                have := (World.ownsRow.lt HA0.out.row _ e2).1
                omega)
              have q8 := (World.cell?_of_block (a := ⟨w.heap.size + 1, 0, none⟩) hkb).trans HA0.out.c0
              have z8 := (World.frozen?_of_block (a := ⟨w.heap.size + 1, 0, none⟩) hkb).trans (HA0.out.fz 0)
              have q7 := (World.cell?_alloc_lt Y0 (.cells #[.string (ba cur), .int .i64 (st : Nat)] 58) ⟨w.heap.size + 1, 0, none⟩ hPd).trans HA0.out.c0
              clear ho8 hf8 hkb c0 hfz
              refine wpAnyL_ready (rs := [11]) (by kernel_rfl) (by simp) (AllReadyL.cons rfl (fun Q hQ => ?_) AllReadyL.nil)
              go_simp
              refine hQ.out _ _ ⟨trivial, q7⟩ (fun _ => ?_)
              clear hQ Q
              refine wpAnyL_ready (rs := [12]) (by kernel_rfl) (by simp) (AllReadyL.cons rfl (fun Q hQ => ?_) AllReadyL.nil)
              refine step_append_run (by rfl) _ _ 54 rfl _ _ _ Y8 rfl rfl hrun ?_
              refine hQ.out _ _ ⟨trivial, q8⟩ (fun _ => ?_)
              clear hQ Q
              simp only [Act.put, List.setIfInBounds_toArray, List.set_cons_zero, List.set_cons_succ, List.getElem_toArray, List.getElem_cons_zero, List.getElem_cons_succ]
              refine wpAnyL_takeS (i := 13) (v := ?_) rfl (by kernel_rfl) (by kernel_rfl) (by kernel_rfl) (by kernel_rfl) (fun _ _ _ h => h) (Or.inl ⟨by rfl, ?_⟩) (by assumption) ?_
              rotate_left 1
              · intro wz sb
                go_simp
                all_goals with_reducible rfl
              simp only [Act.put, List.setIfInBounds_toArray, List.set_cons_zero, List.set_cons_succ, List.getElem_toArray, List.getElem_cons_zero, List.getElem_cons_succ]
              refine wpAnyL_takeS (i := 14) (v := ?_) rfl (by kernel_rfl) (by kernel_rfl) (by kernel_rfl) (by kernel_rfl) (fun _ _ _ h => h) (Or.inl ⟨by rfl, ?_⟩) (by assumption) ?_
              rotate_left 1
              · intro wz sb
                go_simp
                all_goals with_reducible rfl
              simp only [Act.put, List.setIfInBounds_toArray, List.set_cons_zero, List.set_cons_succ, List.getElem_toArray, List.getElem_cons_zero, List.getElem_cons_succ]
              refine wpAnyL_ready (rs := [15]) (by kernel_rfl) (by simp) (AllReadyL.last rfl (by kernel_rfl) (fun Q hQ => ?_) AllReadyL.nil)
              go_simp
              refine hQ.out _ _ trivial (fun _ => ?_)
              clear hQ Q
              refine wpAnyL_done (by kernel_rfl) ?_ _
              clear hrun q7 q8 z8
              generalize Y8.setCell ⟨w.heap.size + 1, 0, none⟩ (.slice (some ⟨g, 0, none⟩) (ps.length + 1) cap) = Y9 at *
              have HFew := HPs
              obtain ⟨g2, cap2, Y18, hrun2, ho2, hg2, _, hf2⟩ := sign_append Y9 (w.heap.size + 1 + 1) (.slice (some ⟨g, 0, none⟩) (ps.length + 1) cap) ((ps ++ [(cur, st)])).length (sgCs ((ps ++ [(cur, st)]))) (Utf8.encode 41) (i : Nat) HPut.out.row (Nat.succ_le_of_lt (World.block_lt_of_cell? Y9 _ HPut.out.c0)) (by have := HFew.out; simp at this ⊢; omega)
              have HRun2 := hideIt hrun2
              rw [enc_41] at ho2
              have m0 := HPut.out.c0
              have HPut2 := hideIt (HPut.out.put (s := [41]) (k := i) hg2 ho2 hf2)
              have hkb2 : Y18.heap[w.heap.size + 1]? = (Y9).heap[w.heap.size + 1]? := hf2.block _ (World.block_lt_of_cell? Y9 _ HPut.out.c0) (fun e => by
                have e2 : Value.ownBlock (.slice (some ⟨g, 0, none⟩) (ps.length + 1) cap) = some (w.heap.size + 1) := by simpa using e
                have := (World.ownsRow.lt HPut.out.row _ e2).1
                omega)
              have m8 := (World.cell?_of_block (a := ⟨w.heap.size + 1, 0, none⟩) hkb2).trans HPut.out.c0
              have mz := (World.frozen?_of_block (a := ⟨w.heap.size + 1, 0, none⟩) hkb2).trans (HPut.out.fz 0)
              clear hrun2 ho2 hf2 hkb2
              have hlp : (ps ++ [(cur, st)]).length = ps.length + 1 := by simp
              rw [hlp] at HRun2 HPut2
              have HN : Hid (GsI w (w.heap.size + 1) t (Y18.setCell ⟨w.heap.size + 1, 0, none⟩ (.slice (some ⟨g2, 0, none⟩) (ps.length + 1 + 1) cap2)) (ps ++ [(cur, st)] ++ [([41], i)]) (.slice (some ⟨g2, 0, none⟩) (ps.length + 1 + 1) cap2) (i + 1) []) := hideIt ⟨HPut2.out, by rw [HTx.out]; simp [emitD, hc], by have := HPs.out; simp at this ⊢; omega, by simp⟩
              clear hlp
              go_wp2_with (at_builtin; refine Lib.wpList_append_run _ rfl _ _ 54 54 rfl _ _ rfl rfl _ Y18 HRun2.out ?_)
              generalize Y18.setCell ⟨w.heap.size + 1, 0, none⟩ (.slice (some ⟨g2, 0, none⟩) (ps.length + 1 + 1) cap2) = Y19 at *
              go_wp2
              go_roundg k
              case measure => omega
              case rel => exact ⟨_, _, i + 1, [], by omega, by simp, .inl ⟨rfl, rfl⟩, fun _ => rfl, HN.out⟩
          by_cases h44 : c = 44
          · subst h44
            rw [if_pos (by decide)] at htx
            have hget2 : ((ba t)[i]'hps).toNat = 44 := hget
            have HTx := hideIt htx
            have HFew := hideIt hfewI
            clear htx hget hcu hfewI
            rcases hwv with ⟨hc, rfl⟩ | ⟨st, hc, rfl, hst⟩
            · subst hc
              obtain ⟨a8, c8, hkv⟩ := some_of_row HM.out.a.row
              subst hkv
              have HA := hideIt HM.out.a
              obtain ⟨g2, cap2, Y18, hrun2, ho2, hg2, _, hf2⟩ := sign_append wr (w.heap.size + 1 + 1) (.slice a8 ps.length c8) (ps).length (sgCs (ps)) (Utf8.encode 44) (i : Nat) HA.out.row (Nat.succ_le_of_lt (World.block_lt_of_cell? wr _ HA.out.c0)) (by have := HFew.out; simp at this ⊢; omega)
              have HRun2 := hideIt hrun2
              rw [enc_44] at ho2
              have m0 := HA.out.c0
              have HPut2 := hideIt (HA.out.put (s := [44]) (k := i) hg2 ho2 hf2)
              have hkb2 : Y18.heap[w.heap.size + 1]? = (wr).heap[w.heap.size + 1]? := hf2.block _ (World.block_lt_of_cell? wr _ HA.out.c0) (fun e => by
                have e2 : Value.ownBlock (.slice a8 ps.length c8) = some (w.heap.size + 1) := by simpa using e
                have := (World.ownsRow.lt HA.out.row _ e2).1
                omega)
              have m8 := (World.cell?_of_block (a := ⟨w.heap.size + 1, 0, none⟩) hkb2).trans HA.out.c0
              have mz := (World.frozen?_of_block (a := ⟨w.heap.size + 1, 0, none⟩) hkb2).trans (HA.out.fz 0)
              clear hrun2 ho2 hf2 hkb2
              have HN : Hid (GsI w (w.heap.size + 1) t (Y18.setCell ⟨w.heap.size + 1, 0, none⟩ (.slice (some ⟨g2, 0, none⟩) (ps.length + 1) cap2)) (ps ++ [([44], i)]) (.slice (some ⟨g2, 0, none⟩) (ps.length + 1) cap2) (i + 1) []) := hideIt ⟨HPut2.out, by rw [HTx.out]; simp [emitD], by have := HFew.out; simp at this ⊢; omega, by simp⟩
              go_wp2_with (at_builtin; refine Lib.wpList_append_run _ rfl _ _ 54 54 rfl _ _ rfl rfl _ Y18 HRun2.out ?_)
              generalize Y18.setCell ⟨w.heap.size + 1, 0, none⟩ (.slice (some ⟨g2, 0, none⟩) (ps.length + 1) cap2) = Y19 at *
              go_wp2
              go_roundg k
              case measure => omega
              case rel => exact ⟨_, _, i + 1, [], by omega, by simp, .inl ⟨rfl, rfl⟩, fun _ => rfl, HN.out⟩
            · have HPs : Hid ((ps ++ [(cur, st)]).length + 0 ≤ i) := hideIt (by have := List.length_pos_iff.2 hc; have := HFew.out; simp; omega)
              have c0 := HM.out.a.c0
              have hfz := HM.out.a.fz 0
              have hex : (ba t).extract st i = ba cur := by
                rw [ba_part]
                have h1 := HM.out.cu
                rw [show i - cur.length = st by omega] at h1
                rw [show i - st = cur.length by omega, ← h1]
              have hb1 : (0 : Int) ≤ (st : Int) := by omega
              have hb2 : (st : Int) ≤ (i : Int) := by omega
              have hfew := HM.out.few
              go_upto_region 16 with fail
              have HA0 : Hid (GsA w (w.heap.size + 1) t wr.drew ps kv) := hideIt (HM.out.a.drewN 1)
              have hPd : w.heap.size + 1 < wr.drew.heap.size := World.block_lt_of_cell? wr.drew _ HA0.out.c0
              refine wp_region_L (B := [15]) (S := fun _ => True) (T := fun Z => Z.cell? ⟨w.heap.size + 1, 0, none⟩ = some kv) (by kernel_rfl) ⟨trivial, HA0.out.c0⟩ (fun hHeld => ?_)
              refine wpAnyL_takeS (i := 0) (v := ?_) rfl (by kernel_rfl) (by kernel_rfl) (by kernel_rfl) (by kernel_rfl) (fun _ _ _ h => h) (Or.inl ⟨by rfl, ?_⟩) (by assumption) ?_
              rotate_left 1
              · intro wz sb
                go_simp
                all_goals with_reducible rfl
              simp only [Act.put, List.setIfInBounds_toArray, List.set_cons_zero, List.set_cons_succ, List.getElem_toArray, List.getElem_cons_zero]
              refine wpAnyL_takeS (i := 1) (v := ?_) rfl (by kernel_rfl) (by kernel_rfl) (by kernel_rfl) (by kernel_rfl) (fun _ _ _ h => h) (Or.inl ⟨by rfl, ?_⟩) (by assumption) ?_
              rotate_left 1
              · intro wz sb
                go_simp
                all_goals with_reducible rfl
              simp only [Act.put, List.setIfInBounds_toArray, List.set_cons_zero, List.set_cons_succ, List.getElem_toArray, List.getElem_cons_zero, List.getElem_cons_succ]
              refine wpAnyL_takeS (i := 2) (v := ?_) rfl (by kernel_rfl) (by kernel_rfl) (by kernel_rfl) (by kernel_rfl) (fun _ _ _ h => h) (Or.inl ⟨by rfl, ?_⟩) (by assumption) ?_
              rotate_left 1
              · intro wz sb
                go_simp
                all_goals with_reducible rfl
              simp only [Act.put, List.setIfInBounds_toArray, List.set_cons_zero, List.set_cons_succ, List.getElem_toArray, List.getElem_cons_zero, List.getElem_cons_succ]
              refine wpAnyL_takeS (i := 3) (v := ?_) rfl (by kernel_rfl) (by kernel_rfl) (by kernel_rfl) (by kernel_rfl) (fun _ _ _ h => h) (Or.inl ⟨by rfl, ?_⟩) (by assumption) ?_
              rotate_left 1
              · intro wz sb
                go_simp
                all_goals with_reducible rfl
              simp only [Act.put, List.setIfInBounds_toArray, List.set_cons_zero, List.set_cons_succ, List.getElem_toArray, List.getElem_cons_zero, List.getElem_cons_succ]
              refine wpAnyL_take [12, 15] (i := 4) (v := ?_) rfl (by kernel_rfl) (by kernel_rfl) (by kernel_rfl) (by kernel_rfl) (fun _ _ _ h => h) (Or.inl ⟨by rfl, ?_⟩) (by assumption) ?_
              rotate_left 1
              · intro wz sb
                have y4 := sb.2
                go_simp
                all_goals with_reducible rfl
              simp only [Act.put, List.setIfInBounds_toArray, List.set_cons_zero, List.set_cons_succ, List.getElem_toArray, List.getElem_cons_zero, List.getElem_cons_succ]
              refine wpAnyL_takeS (i := 5) (v := ?_) rfl (by kernel_rfl) (by kernel_rfl) (by kernel_rfl) (by kernel_rfl) (fun _ _ _ h => h) (Or.inl ⟨by rfl, ?_⟩) (by assumption) ?_
              rotate_left 1
              · intro wz sb
                go_simp
                all_goals with_reducible rfl
              simp only [Act.put, List.setIfInBounds_toArray, List.set_cons_zero, List.set_cons_succ, List.getElem_toArray, List.getElem_cons_zero, List.getElem_cons_succ]
              refine wpAnyL_takeS (i := 6) (v := ?_) rfl (by kernel_rfl) (by kernel_rfl) (by kernel_rfl) (by kernel_rfl) (fun _ _ _ h => h) (Or.inl ⟨by rfl, ?_⟩) (by assumption) ?_
              rotate_left 1
              · intro wz sb
                go_simp
                all_goals with_reducible rfl
              simp only [Act.put, List.setIfInBounds_toArray, List.set_cons_zero, List.set_cons_succ, List.getElem_toArray, List.getElem_cons_zero, List.getElem_cons_succ]
              refine wpAnyL_takeS (i := 7) (v := ?_) rfl (by kernel_rfl) (by kernel_rfl) (by kernel_rfl) (by kernel_rfl) (fun _ _ _ h => h) (Or.inl ⟨by rfl, ?_⟩) (by assumption) ?_
              rotate_left 1
              · intro wz sb
                go_simp
                all_goals with_reducible rfl
              simp only [Act.put, List.setIfInBounds_toArray, List.set_cons_zero, List.set_cons_succ, List.getElem_toArray, List.getElem_cons_zero, List.getElem_cons_succ]
              refine wpAnyL_takeS (i := 8) (v := ?_) rfl (by kernel_rfl) (by kernel_rfl) (by kernel_rfl) (by kernel_rfl) (fun _ _ _ h => h) (Or.inl ⟨by rfl, ?_⟩) (by assumption) ?_
              rotate_left 1
              · intro wz sb
                go_simp
                all_goals with_reducible rfl
              simp only [Act.put, List.setIfInBounds_toArray, List.set_cons_zero, List.set_cons_succ, List.getElem_toArray, List.getElem_cons_zero, List.getElem_cons_succ]
              refine wpAnyL_takeS (i := 9) (v := ?_) rfl (by kernel_rfl) (by kernel_rfl) (by kernel_rfl) (by kernel_rfl) (fun _ _ _ h => h) (Or.inl ⟨by rfl, ?_⟩) (by assumption) ?_
              rotate_left 1
              · intro wz sb
                go_simp
                all_goals with_reducible rfl
              simp only [Act.put, List.setIfInBounds_toArray, List.set_cons_zero, List.set_cons_succ, List.getElem_toArray, List.getElem_cons_zero, List.getElem_cons_succ]
              refine wpAnyL_takeS (i := 10) (v := ?_) rfl (by kernel_rfl) (by kernel_rfl) (by kernel_rfl) (by kernel_rfl) (fun _ _ _ h => h) (Or.inl ⟨by rfl, ?_⟩) (by assumption) ?_
              rotate_left 1
              · intro wz sb
                go_simp
                all_goals with_reducible rfl
              simp only [Act.put, List.setIfInBounds_toArray, List.set_cons_zero, List.set_cons_succ, List.getElem_toArray, List.getElem_cons_zero, List.getElem_cons_succ]
              generalize wr.drew = Y0 at *
              obtain ⟨g, cap, Y8, hrun, ho8, hg8, _, hf8⟩ := sign_append Y0 (w.heap.size + 1 + 1) kv ps.length (sgCs ps) (ba cur) (st : Nat) HA0.out.row (by omega) (by omega)
              have HPut := hideIt (HA0.out.put (s := cur) (k := st) hg8 ho8 hf8)
              have hkb : Y8.heap[w.heap.size + 1]? = Y0.heap[w.heap.size + 1]? := hf8.block _ hPd (fun e => by
                have e2 : Value.ownBlock kv = some (w.heap.size + 1) := by simpa using e
                have := (World.ownsRow.lt HA0.out.row _ e2).1
                omega)
              have q8 := (World.cell?_of_block (a := ⟨w.heap.size + 1, 0, none⟩) hkb).trans HA0.out.c0
              have z8 := (World.frozen?_of_block (a := ⟨w.heap.size + 1, 0, none⟩) hkb).trans (HA0.out.fz 0)
              have q7 := (World.cell?_alloc_lt Y0 (.cells #[.string (ba cur), .int .i64 (st : Nat)] 58) ⟨w.heap.size + 1, 0, none⟩ hPd).trans HA0.out.c0
              clear ho8 hf8 hkb c0 hfz
              refine wpAnyL_ready (rs := [11]) (by kernel_rfl) (by simp) (AllReadyL.cons rfl (fun Q hQ => ?_) AllReadyL.nil)
              go_simp
              refine hQ.out _ _ ⟨trivial, q7⟩ (fun _ => ?_)
              clear hQ Q
              refine wpAnyL_ready (rs := [12]) (by kernel_rfl) (by simp) (AllReadyL.cons rfl (fun Q hQ => ?_) AllReadyL.nil)
              refine step_append_run (by rfl) _ _ 54 rfl _ _ _ Y8 rfl rfl hrun ?_
              refine hQ.out _ _ ⟨trivial, q8⟩ (fun _ => ?_)
              clear hQ Q
              simp only [Act.put, List.setIfInBounds_toArray, List.set_cons_zero, List.set_cons_succ, List.getElem_toArray, List.getElem_cons_zero, List.getElem_cons_succ]
              refine wpAnyL_takeS (i := 13) (v := ?_) rfl (by kernel_rfl) (by kernel_rfl) (by kernel_rfl) (by kernel_rfl) (fun _ _ _ h => h) (Or.inl ⟨by rfl, ?_⟩) (by assumption) ?_
              rotate_left 1
              · intro wz sb
                go_simp
                all_goals with_reducible rfl
              simp only [Act.put, List.setIfInBounds_toArray, List.set_cons_zero, List.set_cons_succ, List.getElem_toArray, List.getElem_cons_zero, List.getElem_cons_succ]
              refine wpAnyL_takeS (i := 14) (v := ?_) rfl (by kernel_rfl) (by kernel_rfl) (by kernel_rfl) (by kernel_rfl) (fun _ _ _ h => h) (Or.inl ⟨by rfl, ?_⟩) (by assumption) ?_
              rotate_left 1
              · intro wz sb
                go_simp
                all_goals with_reducible rfl
              simp only [Act.put, List.setIfInBounds_toArray, List.set_cons_zero, List.set_cons_succ, List.getElem_toArray, List.getElem_cons_zero, List.getElem_cons_succ]
              refine wpAnyL_ready (rs := [15]) (by kernel_rfl) (by simp) (AllReadyL.last rfl (by kernel_rfl) (fun Q hQ => ?_) AllReadyL.nil)
              go_simp
              refine hQ.out _ _ trivial (fun _ => ?_)
              clear hQ Q
              refine wpAnyL_done (by kernel_rfl) ?_ _
              clear hrun q7 q8 z8
              generalize Y8.setCell ⟨w.heap.size + 1, 0, none⟩ (.slice (some ⟨g, 0, none⟩) (ps.length + 1) cap) = Y9 at *
              have HFew := HPs
              obtain ⟨g2, cap2, Y18, hrun2, ho2, hg2, _, hf2⟩ := sign_append Y9 (w.heap.size + 1 + 1) (.slice (some ⟨g, 0, none⟩) (ps.length + 1) cap) ((ps ++ [(cur, st)])).length (sgCs ((ps ++ [(cur, st)]))) (Utf8.encode 44) (i : Nat) HPut.out.row (Nat.succ_le_of_lt (World.block_lt_of_cell? Y9 _ HPut.out.c0)) (by have := HFew.out; simp at this ⊢; omega)
              have HRun2 := hideIt hrun2
              rw [enc_44] at ho2
              have m0 := HPut.out.c0
              have HPut2 := hideIt (HPut.out.put (s := [44]) (k := i) hg2 ho2 hf2)
              have hkb2 : Y18.heap[w.heap.size + 1]? = (Y9).heap[w.heap.size + 1]? := hf2.block _ (World.block_lt_of_cell? Y9 _ HPut.out.c0) (fun e => by
                have e2 : Value.ownBlock (.slice (some ⟨g, 0, none⟩) (ps.length + 1) cap) = some (w.heap.size + 1) := by simpa using e
                have := (World.ownsRow.lt HPut.out.row _ e2).1
                omega)
              have m8 := (World.cell?_of_block (a := ⟨w.heap.size + 1, 0, none⟩) hkb2).trans HPut.out.c0
              have mz := (World.frozen?_of_block (a := ⟨w.heap.size + 1, 0, none⟩) hkb2).trans (HPut.out.fz 0)
              clear hrun2 ho2 hf2 hkb2
              have hlp : (ps ++ [(cur, st)]).length = ps.length + 1 := by simp
              rw [hlp] at HRun2 HPut2
              have HN : Hid (GsI w (w.heap.size + 1) t (Y18.setCell ⟨w.heap.size + 1, 0, none⟩ (.slice (some ⟨g2, 0, none⟩) (ps.length + 1 + 1) cap2)) (ps ++ [(cur, st)] ++ [([44], i)]) (.slice (some ⟨g2, 0, none⟩) (ps.length + 1 + 1) cap2) (i + 1) []) := hideIt ⟨HPut2.out, by rw [HTx.out]; simp [emitD, hc], by have := HPs.out; simp at this ⊢; omega, by simp⟩
              clear hlp
              go_wp2_with (at_builtin; refine Lib.wpList_append_run _ rfl _ _ 54 54 rfl _ _ rfl rfl _ Y18 HRun2.out ?_)
              generalize Y18.setCell ⟨w.heap.size + 1, 0, none⟩ (.slice (some ⟨g2, 0, none⟩) (ps.length + 1 + 1) cap2) = Y19 at *
              go_wp2
              go_roundg k
              case measure => omega
              case rel => exact ⟨_, _, i + 1, [], by omega, by simp, .inl ⟨rfl, rfl⟩, fun _ => rfl, HN.out⟩
          have hmk : ¬ isMk c = true := by simp [isMk, h40, h41, h44]
          rw [if_neg hmk] at htx
          have HN : Hid (GsI w (w.heap.size + 1) t wr ps kv (i + 1) (cur ++ [c])) := hideIt ⟨HM.out.a, htx, by rw [List.length_append]; simp; omega, by rw [List.length_append]; simp only [List.length_singleton]; rw [← HTk.out, ← hcu]⟩
          have e32 : (((((ba t)[i]'hps).toNat : Nat) : Int) == 32) = false := by rw [hget]; have : c.toNat ≠ 32 := fun e => h32 (UInt8.toNat_inj.1 e); simp; omega
          have e32n : (((((ba t)[i]'hps).toNat : Nat) : Int) != 32) = true := by rw [bne, e32]; rfl
          have e40 : (((((ba t)[i]'hps).toNat : Nat) : Int) == 40) = false := by rw [hget]; have : c.toNat ≠ 40 := fun e => h40 (UInt8.toNat_inj.1 e); simp; omega
          have e41 : (((((ba t)[i]'hps).toNat : Nat) : Int) == 41) = false := by rw [hget]; have : c.toNat ≠ 41 := fun e => h41 (UInt8.toNat_inj.1 e); simp; omega
          have e44 : (((((ba t)[i]'hps).toNat : Nat) : Int) == 44) = false := by rw [hget]; have : c.toNat ≠ 44 := fun e => h44 (UInt8.toNat_inj.1 e); simp; omega
          clear htx hcu hmk h32 h40 h41 h44 hget hfewI
          rcases hwv with ⟨hc, rfl⟩ | ⟨st, hc, rfl, hst⟩
          · subst hc
            go_wp2
            go_roundg k
            case measure => omega
            case rel => exact ⟨ps, kv, i + 1, [c], by omega, by simp, .inr ⟨i, by simp, rfl, by simp⟩, fun h => by omega, HN.out⟩
          · have hge : (0 : Int) ≤ (st : Int) := by omega
            go_wp2
            go_roundg k
            case measure => omega
            case rel => exact ⟨ps, kv, i + 1, cur ++ [c], by omega, by simp, .inr ⟨st, by simp, rfl, by rw [List.length_append]; simp; omega⟩, fun h => by omega, HN.out⟩
      · have hie : i = t.length := by omega
        have hi2 : ¬ (i : Int) < (t.length : Int) := by omega
        have htx := hI.tx
        rw [List.drop_eq_nil_of_le (by omega)] at htx
        have HTx : Hid (dsF [] t = ps.map (·.1) ++ (emitD cur ++ dsF [] (t.drop (i + 1)))) := hideIt (by rw [htx, List.drop_eq_nil_of_le (by omega)]; simp [dsF, emitD])
        clear hI htx hie
        rcases hwv with ⟨hc, rfl⟩ | ⟨st, hc, rfl, hst⟩
        · subst hc
          have HN : Hid (GsI w (w.heap.size + 1) t wr ps kv (i + 1) []) := hideIt ⟨HM.out.a, by rw [HTx.out]; simp [emitD], by have := HM.out.few; simp at this ⊢; omega, by simp⟩
          go_wp2
          go_roundg k
          case measure => omega
          case rel => exact ⟨ps, kv, i + 1, [], by omega, by simp, .inl ⟨rfl, rfl⟩, fun _ => rfl, HN.out⟩
        · have c0 := HM.out.a.c0
          have hfz := HM.out.a.fz 0
          have hex : (ba t).extract st i = ba cur := by
            rw [ba_part]
            have h1 := HM.out.cu
            rw [show i - cur.length = st by omega] at h1
            rw [show i - st = cur.length by omega, ← h1]
          have hb1 : (0 : Int) ≤ (st : Int) := by omega
          have hb2 : (st : Int) ≤ (i : Int) := by omega
          have hfew := HM.out.few
          go_upto_region 16 with fail
          have HA0 : Hid (GsA w (w.heap.size + 1) t wr.drew ps kv) := hideIt (HM.out.a.drewN 1)
          have hPd : w.heap.size + 1 < wr.drew.heap.size := World.block_lt_of_cell? wr.drew _ HA0.out.c0
          refine wp_region_L (B := [15]) (S := fun _ => True) (T := fun Z => Z.cell? ⟨w.heap.size + 1, 0, none⟩ = some kv) (by kernel_rfl) ⟨trivial, HA0.out.c0⟩ (fun hHeld => ?_)
          refine wpAnyL_takeS (i := 0) (v := ?_) rfl (by kernel_rfl) (by kernel_rfl) (by kernel_rfl) (by kernel_rfl) (fun _ _ _ h => h) (Or.inl ⟨by rfl, ?_⟩) (by assumption) ?_
          rotate_left 1
          · intro wz sb
            go_simp
            all_goals with_reducible rfl
          simp only [Act.put, List.setIfInBounds_toArray, List.set_cons_zero, List.set_cons_succ, List.getElem_toArray, List.getElem_cons_zero]
          refine wpAnyL_takeS (i := 1) (v := ?_) rfl (by kernel_rfl) (by kernel_rfl) (by kernel_rfl) (by kernel_rfl) (fun _ _ _ h => h) (Or.inl ⟨by rfl, ?_⟩) (by assumption) ?_
          rotate_left 1
          · intro wz sb
            go_simp
            all_goals with_reducible rfl
          simp only [Act.put, List.setIfInBounds_toArray, List.set_cons_zero, List.set_cons_succ, List.getElem_toArray, List.getElem_cons_zero, List.getElem_cons_succ]
          refine wpAnyL_takeS (i := 2) (v := ?_) rfl (by kernel_rfl) (by kernel_rfl) (by kernel_rfl) (by kernel_rfl) (fun _ _ _ h => h) (Or.inl ⟨by rfl, ?_⟩) (by assumption) ?_
          rotate_left 1
          · intro wz sb
            go_simp
            all_goals with_reducible rfl
          simp only [Act.put, List.setIfInBounds_toArray, List.set_cons_zero, List.set_cons_succ, List.getElem_toArray, List.getElem_cons_zero, List.getElem_cons_succ]
          refine wpAnyL_takeS (i := 3) (v := ?_) rfl (by kernel_rfl) (by kernel_rfl) (by kernel_rfl) (by kernel_rfl) (fun _ _ _ h => h) (Or.inl ⟨by rfl, ?_⟩) (by assumption) ?_
          rotate_left 1
          · intro wz sb
            go_simp
            all_goals with_reducible rfl
          simp only [Act.put, List.setIfInBounds_toArray, List.set_cons_zero, List.set_cons_succ, List.getElem_toArray, List.getElem_cons_zero, List.getElem_cons_succ]
          refine wpAnyL_take [12, 15] (i := 4) (v := ?_) rfl (by kernel_rfl) (by kernel_rfl) (by kernel_rfl) (by kernel_rfl) (fun _ _ _ h => h) (Or.inl ⟨by rfl, ?_⟩) (by assumption) ?_
          rotate_left 1
          · intro wz sb
            have y4 := sb.2
            go_simp
            all_goals with_reducible rfl
          simp only [Act.put, List.setIfInBounds_toArray, List.set_cons_zero, List.set_cons_succ, List.getElem_toArray, List.getElem_cons_zero, List.getElem_cons_succ]
          refine wpAnyL_takeS (i := 5) (v := ?_) rfl (by kernel_rfl) (by kernel_rfl) (by kernel_rfl) (by kernel_rfl) (fun _ _ _ h => h) (Or.inl ⟨by rfl, ?_⟩) (by assumption) ?_
          rotate_left 1
          · intro wz sb
            go_simp
            all_goals with_reducible rfl
          simp only [Act.put, List.setIfInBounds_toArray, List.set_cons_zero, List.set_cons_succ, List.getElem_toArray, List.getElem_cons_zero, List.getElem_cons_succ]
          refine wpAnyL_takeS (i := 6) (v := ?_) rfl (by kernel_rfl) (by kernel_rfl) (by kernel_rfl) (by kernel_rfl) (fun _ _ _ h => h) (Or.inl ⟨by rfl, ?_⟩) (by assumption) ?_
          rotate_left 1
          · intro wz sb
            go_simp
            all_goals with_reducible rfl
          simp only [Act.put, List.setIfInBounds_toArray, List.set_cons_zero, List.set_cons_succ, List.getElem_toArray, List.getElem_cons_zero, List.getElem_cons_succ]
          refine wpAnyL_takeS (i := 7) (v := ?_) rfl (by kernel_rfl) (by kernel_rfl) (by kernel_rfl) (by kernel_rfl) (fun _ _ _ h => h) (Or.inl ⟨by rfl, ?_⟩) (by assumption) ?_
          rotate_left 1
          · intro wz sb
            go_simp
            all_goals with_reducible rfl
          simp only [Act.put, List.setIfInBounds_toArray, List.set_cons_zero, List.set_cons_succ, List.getElem_toArray, List.getElem_cons_zero, List.getElem_cons_succ]
          refine wpAnyL_takeS (i := 8) (v := ?_) rfl (by kernel_rfl) (by kernel_rfl) (by kernel_rfl) (by kernel_rfl) (fun _ _ _ h => h) (Or.inl ⟨by rfl, ?_⟩) (by assumption) ?_
          rotate_left 1
          · intro wz sb
            go_simp
            all_goals with_reducible rfl
          simp only [Act.put, List.setIfInBounds_toArray, List.set_cons_zero, List.set_cons_succ, List.getElem_toArray, List.getElem_cons_zero, List.getElem_cons_succ]
          refine wpAnyL_takeS (i := 9) (v := ?_) rfl (by kernel_rfl) (by kernel_rfl) (by kernel_rfl) (by kernel_rfl) (fun _ _ _ h => h) (Or.inl ⟨by rfl, ?_⟩) (by assumption) ?_
          rotate_left 1
          · intro wz sb
            go_simp
            all_goals with_reducible rfl
          simp only [Act.put, List.setIfInBounds_toArray, List.set_cons_zero, List.set_cons_succ, List.getElem_toArray, List.getElem_cons_zero, List.getElem_cons_succ]
          refine wpAnyL_takeS (i := 10) (v := ?_) rfl (by kernel_rfl) (by kernel_rfl) (by kernel_rfl) (by kernel_rfl) (fun _ _ _ h => h) (Or.inl ⟨by rfl, ?_⟩) (by assumption) ?_
          rotate_left 1
          · intro wz sb
            go_simp
            all_goals with_reducible rfl
          simp only [Act.put, List.setIfInBounds_toArray, List.set_cons_zero, List.set_cons_succ, List.getElem_toArray, List.getElem_cons_zero, List.getElem_cons_succ]
          generalize wr.drew = Y0 at *
          obtain ⟨g, cap, Y8, hrun, ho8, hg8, _, hf8⟩ := sign_append Y0 (w.heap.size + 1 + 1) kv ps.length (sgCs ps) (ba cur) (st : Nat) HA0.out.row (by omega) (by omega)
          have HPut := hideIt (HA0.out.put (s := cur) (k := st) hg8 ho8 hf8)
          have hkb : Y8.heap[w.heap.size + 1]? = Y0.heap[w.heap.size + 1]? := hf8.block _ hPd (fun e => by
            have e2 : Value.ownBlock kv = some (w.heap.size + 1) := by simpa using e
            have := (World.ownsRow.lt HA0.out.row _ e2).1
            omega)
          have q8 := (World.cell?_of_block (a := ⟨w.heap.size + 1, 0, none⟩) hkb).trans HA0.out.c0
          have z8 := (World.frozen?_of_block (a := ⟨w.heap.size + 1, 0, none⟩) hkb).trans (HA0.out.fz 0)
          have q7 := (World.cell?_alloc_lt Y0 (.cells #[.string (ba cur), .int .i64 (st : Nat)] 58) ⟨w.heap.size + 1, 0, none⟩ hPd).trans HA0.out.c0
          clear ho8 hf8 hkb c0 hfz
          refine wpAnyL_ready (rs := [11]) (by kernel_rfl) (by simp) (AllReadyL.cons rfl (fun Q hQ => ?_) AllReadyL.nil)
          go_simp
          refine hQ.out _ _ ⟨trivial, q7⟩ (fun _ => ?_)
          clear hQ Q
          refine wpAnyL_ready (rs := [12]) (by kernel_rfl) (by simp) (AllReadyL.cons rfl (fun Q hQ => ?_) AllReadyL.nil)
          refine step_append_run (by rfl) _ _ 54 rfl _ _ _ Y8 rfl rfl hrun ?_
          refine hQ.out _ _ ⟨trivial, q8⟩ (fun _ => ?_)
          clear hQ Q
          simp only [Act.put, List.setIfInBounds_toArray, List.set_cons_zero, List.set_cons_succ, List.getElem_toArray, List.getElem_cons_zero, List.getElem_cons_succ]
          refine wpAnyL_takeS (i := 13) (v := ?_) rfl (by kernel_rfl) (by kernel_rfl) (by kernel_rfl) (by kernel_rfl) (fun _ _ _ h => h) (Or.inl ⟨by rfl, ?_⟩) (by assumption) ?_
          rotate_left 1
          · intro wz sb
            go_simp
            all_goals with_reducible rfl
          simp only [Act.put, List.setIfInBounds_toArray, List.set_cons_zero, List.set_cons_succ, List.getElem_toArray, List.getElem_cons_zero, List.getElem_cons_succ]
          refine wpAnyL_takeS (i := 14) (v := ?_) rfl (by kernel_rfl) (by kernel_rfl) (by kernel_rfl) (by kernel_rfl) (fun _ _ _ h => h) (Or.inl ⟨by rfl, ?_⟩) (by assumption) ?_
          rotate_left 1
          · intro wz sb
            go_simp
            all_goals with_reducible rfl
          simp only [Act.put, List.setIfInBounds_toArray, List.set_cons_zero, List.set_cons_succ, List.getElem_toArray, List.getElem_cons_zero, List.getElem_cons_succ]
          refine wpAnyL_ready (rs := [15]) (by kernel_rfl) (by simp) (AllReadyL.last rfl (by kernel_rfl) (fun Q hQ => ?_) AllReadyL.nil)
          go_simp
          refine hQ.out _ _ trivial (fun _ => ?_)
          clear hQ Q
          refine wpAnyL_done (by kernel_rfl) ?_ _
          clear hrun q7 q8 z8
          generalize Y8.setCell ⟨w.heap.size + 1, 0, none⟩ (.slice (some ⟨g, 0, none⟩) (ps.length + 1) cap) = Y9 at *
          have HN : Hid (GsI w (w.heap.size + 1) t Y9 (ps ++ [(cur, st)]) (.slice (some ⟨g, 0, none⟩) (ps.length + 1) cap) (i + 1) []) := hideIt ⟨HPut.out, by rw [HTx.out]; simp [emitD, hc], by have := List.length_pos_iff.2 hc; simp; omega, by simp⟩
          go_wp2
          go_roundg k
          case measure => omega
          case rel => exact ⟨_, _, i + 1, [], by omega, by simp, .inl ⟨rfl, rfl⟩, fun _ => rfl, HN.out⟩
end Go.Proofs.YthblokfiojccmaaGreatDoor.Gn
