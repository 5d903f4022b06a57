/-
  The document's store, walked: Deliver.
-/
import Derived.Test.YtncnojgemmcplaaGreatDoorDwKZ
import Derived.Deep.RegionWith
namespace Go.Proofs.YtncnojgemmcplaaGreatDoor.St.Dc
open Go.RowKit

/-- What is asked of what is delivered. -/
structure DlvOk (S : Sto) : Prop where
  n7 : S.n ≤ 7
  k8 : S.k ≤ 8
  cl : ∀ c : Nat, c < S.k → (0 ≤ (S.cl c).rd ∧ (S.cl c).rd ≤ 100000) ∧ (S.cl c).cnt.length ≤ 500 ∧ -1 ≤ (S.cl c).kept.s.t ∧ (S.cl c).kept.s.t ≤ 100000
  ml : ∀ m, m ∈ S.mails → (m.to < S.n → 0 ≤ m.to ∧ 0 ≤ m.l.key ∧ m.l.key < 8) ∧ (S.n ≤ m.to → m.to < S.n + S.k) ∧ -1 ≤ m.l.h.s.t ∧ m.l.h.s.t ≤ 100000
section
variable {w0 W W' : World} {K : DoK} {S : Sto}
theorem gone_told2 (h : DoR w0 W K S) (hp : DoPl K S) {i : Nat} (hi : i < K.L.length) (hg : GoneTold K.B 5 K.L i W W') : ∃ K1, DoR w0 W' K1 { S with mails := S.mails.eraseIdx i } ∧ DoPl K1 { S with mails := S.mails.eraseIdx i } ∧ K1.lt = K.lt ∧ K1.B = K.B ∧ K1.C = K.C ∧ K1.M = K.M ∧ DFr K S.k W W' K1 := by
  obtain ⟨v', w1, h1, rfl, h2⟩ := hg
  have hl : (K.L.eraseIdx i).length = K.L.length - 1 := by rw [List.length_eraseIdx_of_lt hi]
  rw [← hl] at h2
  obtain ⟨a, b⟩ := h.mail (L' := K.L.eraseIdx i) (grown_weak h1) (ownsRow_base h2 h.bel.size)
  exact ⟨_, a.cast _ _ _, ⟨by show S.mails.eraseIdx i = (K.L.eraseIdx i).map (mlOf K.lt); rw [map_erase, hp.ms], fun m hm => hp.wh m (List.mem_of_mem_eraseIdx hm), hp.hs, hp.fw, hp.lk⟩, rfl, rfl, rfl, rfl, b⟩
/-- What Take tells Deliver. -/
theorem take_cases (h : DoR w0 W K S) (hp : DoPl K S) (hO : DlvOk S) {i : Int} {e : Ending} (ht : TakeTold K.B 5 K.cut K.LM K.L i W e W') :
    (∃ c : Int, (c = 8 ∨ c = 6) ∧ takeE S i = c ∧ e = .returned (.tuple #[.agg #[.int .i64 0, .int .i64 0, .int .i64 0], .int .i64 c]) ∧ DoTold 7 w0 K S W S W') ∨
    (∃ (fr tt : Int) (q : Nat) (l : Ltr) (ms : List Ml) (K1 : DoK), takeE S i = 0 ∧ delivS S i = takeS { S with mails := ms } ⟨fr, tt, l⟩ ∧ ms.length ≤ S.mails.length ∧ e = .returned (.tuple #[.agg #[.int .i64 fr, .int .i64 tt, .int .i64 (q : Int)], .int .i64 0]) ∧ K1.lt[q]? = some l ∧
      DoR w0 W' K1 { S with mails := ms } ∧ DoPl K1 { S with mails := ms } ∧ K1.lt.length = K.lt.length ∧ (K1.B = K.B ∧ K1.C = K.C ∧ K1.M = K.M) ∧ DFr K S.k W W' K1 ∧
      (tt < S.n → 0 ≤ tt ∧ 0 ≤ l.key ∧ l.key < 8) ∧ (S.n ≤ tt → tt < S.n + S.k) ∧ -1 ≤ l.h.s.t ∧ l.h.s.t ≤ 100000) := by
  rcases ht with ⟨hbad, rfl, hb⟩ | ⟨k, m, rfl, hm, hop, rfl, hb⟩ | ⟨k, m, rfl, hm, hop, rfl, hg⟩
  · exact .inl ⟨8, .inl rfl, hp.take_bad hbad, rfl, K, h.below hb, hp, Nat.le_add_right _ _, DFr.below hb⟩
  · refine .inl ⟨6, .inr rfl, ?_, rfl, K, h.below hb, hp, Nat.le_add_right _ _, DFr.below hb⟩
    rw [(hp.take_at hm).2, hop]
    rfl
  · have hk : k < K.L.length := (List.getElem?_eq_some_iff.1 hm).1
    obtain ⟨e1, e2⟩ := hp.take_at hm
    obtain ⟨hw0, hw1⟩ := hp.wh m (List.mem_of_getElem? hm)
    obtain ⟨K1, a1, a2, a3, a4, a5, a6, a7⟩ := gone_told2 h hp hk hg
    obtain ⟨fr, tt, wh⟩ := m
    obtain ⟨q, rfl⟩ := Int.eq_ofNat_of_zero_le hw0
    have hq : q < K.lt.length := by have : (q : Int) < K.lt.length := hw1; omega
    have hml : mlOf K.lt ⟨fr, tt, (q : Int)⟩ = ⟨fr, tt, K.lt[q]⟩ := by
      unfold mlOf
      show (⟨fr, tt, (K.lt[((q : Nat) : Int).toNat]?).getD ltr0⟩ : Ml) = _
      rw [Int.toNat_natCast, List.getElem?_eq_getElem hq]
      rfl
    rw [hml] at e1
    have ho := hO.ml _ (List.mem_of_getElem? e1)
    refine .inr ⟨fr, tt, q, K.lt[q], S.mails.eraseIdx k, K1, ?_, ?_, ?_, rfl, ?_, a1, a2, by rw [a3], ⟨a4, a5, a6⟩, a7, ho.1, ho.2.1, ho.2.2⟩
    · rw [e2, hop]; rfl
    · unfold delivS
      rw [Int.toNat_natCast, e1]
    · rw [List.length_eraseIdx]; split <;> omega
    · rw [a3, List.getElem?_eq_getElem hq]
set_option maxRecDepth 100000 in
set_option maxHeartbeats 400000000 in
theorem deliverD_any (h : DoR w0 W K S) (hp : DoPl K S) (hs : S.seen.length ≤ 900) (hO : DlvOk S) (h5 : K.L.length ≤ 500) (hlt : K.lt.length ≤ 39000) (i : Int) : Calls Tryz.prog 33 #[.pointer (some ⟨K.B, 0, none⟩), .int .i64 i] W fun en W' => en = .returned (.int .i64 (takeE S i)) ∧ DoTold 7 w0 K S W (if takeE S i ≠ 0 then S else delivS S i) W' := by
  have HT := hideIt (h.take h5 i)
  have hln := hp.len
  have h5' : S.mails.length ≤ 500 := by omega
  have HK := hideIt (fun e w' ht => take_cases (W' := w') h hp hO (i := i) (e := e) ht)
  have HOk := hideIt hO
  clear h hp hO hln
  generalize hce : takeE S i = ce at HK ⊢
  generalize hpe : (if ce ≠ 0 then S else delivS S i) = Pend
  have HPe := hideIt hpe
  clear hpe hce
  go_enter Tryz.func33, Tryz.ntmps33
  go_wp2_with fail
  refine HT.out.mono ?_
  intro e V1 hd
  rcases HK.out e V1 hd with ⟨c, hc, rfl, rfl, hT⟩ | ⟨fr, tt, q, l, ms, K1, rfl, hdl, hml, rfl, hq, hR1, hP1, hk1, hf1, hF1, ho1, ho2, ho3⟩
  · have HE : Hid (DoTold 7 w0 K S W Pend (V1.alloc (.cells #[.int .i64 0, .int .i64 0, .int .i64 0] 140))) := by
      rw [← HPe.out, if_pos (by omega)]
      obtain ⟨K2, b1, b2, b3, b4⟩ := hT
      have hbb : Below V1.heap.size V1 (V1.alloc (.cells #[.int .i64 0, .int .i64 0, .int .i64 0] 140)) := belA (Below.refl _ V1) _
      exact ⟨K2, b1.below hbb, b2, b3, b4.trans (DFr.below hbb)⟩
    clear hT hd HT HK HPe
    rcases hc with rfl | rfl
    · go_wp2
      go_ret
      exact ⟨rfl, HE.out⟩
    · go_wp2
      go_ret
      exact ⟨rfl, HE.out⟩
  have HPd : Hid (Pend = takeS { S with mails := ms } ⟨fr, tt, l⟩) := by
    show _ = _
    rw [← HPe.out, if_neg (fun h => h rfl), hdl]
  obtain ⟨eB, eC, eM⟩ := hf1
  have HF1 := hideIt hF1
  clear hd HT HK HPe hdl hF1
  go_upto_region 4 with fail
  have hbb : Below V1.heap.size V1 (V1.alloc (.cells #[.int .i64 fr, .int .i64 tt, .int .i64 (q : Int)] 140)) := belA (Below.refl _ V1) _
  have hGb : (V1.alloc (.cells #[.int .i64 fr, .int .i64 tt, .int .i64 (q : Int)] 140)).heap[V1.heap.size]? = some (.cells #[.int .i64 fr, .int .i64 tt, .int .i64 (q : Int)] 140) := heap_alloc_new V1 _
  have hsz : V1.heap.size < (V1.alloc (.cells #[.int .i64 fr, .int .i64 tt, .int .i64 (q : Int)] 140)).heap.size := lt_of_heap hGb
  generalize V1.alloc (.cells #[.int .i64 fr, .int .i64 tt, .int .i64 (q : Int)] 140) = V2 at *
  have hR2 := hR1.below hbb
  have HF2 := hideIt (HF1.out.trans (DFr.below hbb))
  obtain ⟨g, cl, evl, hgl, hlc⟩ := letter_at hR2 hq
  obtain ⟨y0, y1, y2, y3, y4, y5, y6⟩ := hlc V2 rfl
  have HLc := hideIt hlc
  have hql : (q : Int) < (K1.lt.length : Int) := by have := (List.getElem?_eq_some_iff.1 hq).1; omega
  have c8 : V2.cell? ⟨K.B, 8, none⟩ = some (.slice (some ⟨g, 0, none⟩) K1.lt.length cl) := by rw [← eB, ← evl]; exact hR2.cells.2.2.1
  have hBl : K.B < V2.heap.size := by rw [← eB]; exact hR2.ltB
  obtain ⟨b0, b1, b2⟩ := blk3 hGb
  have HR2 := hideIt hR2
  have HPl2 := hideIt hP1
  have Hb2 := hideIt hGb
  clear hlc hR2 hR1 hP1 HF1 hbb hGb hq
  go_region
  have hb4 : Below V2.heap.size V2 ((V2.alloc (.cells #[.int .i64 l.c, .int .i64 l.key, .int .i64 l.rd, .bool l.tells, .int .i64 l.h.s.t, .int .i64 l.h.s.c, .int .i64 l.h.v] 144)).drew) := (belA (Below.refl _ V2) _).drew
  have hGl : ((V2.alloc (.cells #[.int .i64 l.c, .int .i64 l.key, .int .i64 l.rd, .bool l.tells, .int .i64 l.h.s.t, .int .i64 l.h.s.c, .int .i64 l.h.v] 144)).drew).heap[V2.heap.size]? = some (.cells #[.int .i64 l.c, .int .i64 l.key, .int .i64 l.rd, .bool l.tells, .int .i64 l.h.s.t, .int .i64 l.h.s.c, .int .i64 l.h.v] 144) := heap_alloc_new V2 _
  generalize (V2.alloc (.cells #[.int .i64 l.c, .int .i64 l.key, .int .i64 l.rd, .bool l.tells, .int .i64 l.h.s.t, .int .i64 l.h.s.c, .int .i64 l.h.v] 144)).drew = V4 at *
  have HR4 := hideIt (HR2.out.below hb4)
  have HAt : Hid (∀ (p : Pc) (b : Nat), p.ok S.k → K1.at p = some b → b < V2.heap.size) := fun p b hp hb => ((HR2.out.facts p hp).blk hb).2.1
  have HWs : Hid (W.heap.size ≤ V2.heap.size) := HF2.out.size
  have HF4 := hideIt (HF2.out.trans (DFr.below hb4))
  have HGb4 := hideIt ((hb4.block _ hsz).trans Hb2.out)
  have HGl := hideIt hGl
  have hsz4 : V1.heap.size < V4.heap.size := lt_of_heap HGb4.out
  have hsl4 : V2.heap.size < V4.heap.size := lt_of_heap hGl
  have Hsz := hideIt hsz
  clear y0 y1 y2 y3 y4 y5 y6 c8 b0 b1 b2 hql HLc HR2 HF2 Hb2 hb4 hGl hsz hBl hgl evl
  have Hl7 : Hid (∀ Z : World, Z.heap[V2.heap.size]? = some (.cells #[.int .i64 l.c, .int .i64 l.key, .int .i64 l.rd, .bool l.tells, .int .i64 l.h.s.t, .int .i64 l.h.s.c, .int .i64 l.h.v] 144) → Z.cell? ⟨V2.heap.size, 0, none⟩ = some (.int .i64 l.c) ∧ Z.cell? ⟨V2.heap.size, 1, none⟩ = some (.int .i64 l.key) ∧ Z.cell? ⟨V2.heap.size, 2, none⟩ = some (.int .i64 l.rd) ∧ Z.cell? ⟨V2.heap.size, 3, none⟩ = some (.bool l.tells) ∧ Z.cell? ⟨V2.heap.size, 4, none⟩ = some (.int .i64 l.h.s.t) ∧ Z.cell? ⟨V2.heap.size, 5, none⟩ = some (.int .i64 l.h.s.c) ∧ Z.cell? ⟨V2.heap.size, 6, none⟩ = some (.int .i64 l.h.v)) := fun Z hZ => by
    have hcc := fun i => cell_of_row Z V2.heap.size i _ 144 _ hZ
    exact ⟨by rw [hcc]; rfl, by rw [hcc]; rfl, by rw [hcc]; rfl, by rw [hcc]; rfl, by rw [hcc]; rfl, by rw [hcc]; rfl, by rw [hcc]; rfl⟩
  obtain ⟨b0, b1, b2⟩ := blk3 HGb4.out
  have c0 : V4.cell? ⟨K.B, 0, none⟩ = some (.int .i64 (S.n : Int)) := by rw [← eB]; exact HR4.out.cells.1.1
  by_cases hnd : tt < (S.n : Int)
  · obtain ⟨ht0, hk0, hk8⟩ := ho1 hnd
    have hn7 := HOk.out.n7
    have hwf : Wf2 tt l.key := wf_small ⟨ht0, by omega⟩ ⟨hk0, by omega⟩
    obtain ⟨l0, l1, l2, l3, l4, l5, l6⟩ := Hl7.out _ HGl.out
    go_upto_region 5 with fail
    go_region
    go_upto_region 7 with fail
    have hb6 : Below V4.heap.size V4 ((V4.alloc (.cells #[.int .i64 tt, .int .i64 l.key] 145)).drew) := (belA (Below.refl _ V4) _).drew
    have hGk : ((V4.alloc (.cells #[.int .i64 tt, .int .i64 l.key] 145)).drew).heap[V4.heap.size]? = some (.cells #[.int .i64 tt, .int .i64 l.key] 145) := heap_alloc_new V4 _
    generalize (V4.alloc (.cells #[.int .i64 tt, .int .i64 l.key] 145)).drew = V6 at *
    have HR6 := hideIt (HR4.out.below hb6)
    have HF6 := hideIt (HF4.out.trans (DFr.below hb6))
    have HGl6 := hideIt ((hb6.block _ hsl4).trans HGl.out)
    have HGb6 := hideIt ((hb6.block _ hsz4).trans HGb4.out)
    have HGk := hideIt hGk
    have hsk : V4.heap.size < V6.heap.size := lt_of_heap hGk
    have hB6 : K.B < V6.heap.size := by rw [← eB]; exact HR6.out.ltB
    have c9 : V6.cell? ⟨K.B, 9, none⟩ = some (.map (some K.M)) := by rw [← eB, ← eM]; exact HR6.out.cells.2.2.2.1
    have kk := fun i => cell_of_row V6 V4.heap.size i _ 145 _ hGk
    have k0 : V6.cell? ⟨V4.heap.size, 0, none⟩ = some (.int .i64 tt) := by rw [kk]; rfl
    have k1 : V6.cell? ⟨V4.heap.size, 1, none⟩ = some (.int .i64 l.key) := by rw [kk]; rfl
    have HHas : Hid (S.has tt l.key = (K1.f tt l.key).getD hd0) := HPl2.out.hs tt l.key
    clear kk hGk hb6 HR4 HF4 HGl HGb4 l0 l1 l2 l3 l4 l5 l6 b0 b1 b2 c0
    cases hf : K1.f tt l.key with
    | none =>
      have HLk : Hid (∀ Z, Below V6.heap.size V6 Z → (Instr.lookup 53 (.map (some K.M)) (.agg #[.int .i64 tt, .int .i64 l.key]) true).run Tryz.prog Z = .ok (.tuple #[.agg #[.int .i64 0, .int .i64 0, .int .i64 0], .bool false]) Z) := fun Z hZ => by
        have hq := (((HR6.out.below hZ).facts .M trivial).1).look_ok pairKD Tryz.underlying53 (zeroHd Z) hwf
        rw [hf, eM] at hq
        exact hq
      have lk1 := HLk.out V6.drew (Below.refl _ _).drew
      have lk2 := HLk.out (V6.alloc (.cells #[.int .i64 0, .int .i64 0, .int .i64 0] 105)).drew (belA (Below.refl _ _) _).drew
      have HHs : Hid (S.has tt l.key = hd0) := by show _ = _; rw [HHas.out, hf]; rfl
      clear HHas hf HLk
      go_region
      all_goals as_aux_lemma =>
        go_upto_region 10 with fail
        have hb7 : Below V6.heap.size V6 ((V6.alloc (.cells #[.int .i64 0, .int .i64 (-1), .int .i64 0] 105)).drew) := (belA (Below.refl _ V6) _).drew
        have hGo : ((V6.alloc (.cells #[.int .i64 0, .int .i64 (-1), .int .i64 0] 105)).drew).heap[V6.heap.size]? = some (.cells #[.int .i64 (hd0).s.t, .int .i64 (hd0).s.c, .int .i64 (hd0).v] 105) := heap_alloc_new V6 _
        clear lk1 lk2 k0 k1 c9
        generalize (V6.alloc (.cells #[.int .i64 0, .int .i64 (-1), .int .i64 0] 105)).drew = V7 at *
        have HR7 := hideIt (HR6.out.below hb7)
        have HF7 := hideIt (HF6.out.trans (DFr.below hb7))
        have hGl7 := (hb7.block _ (lt_of_heap HGl6.out)).trans HGl6.out
        have hGb7 := (hb7.block _ (lt_of_heap HGb6.out)).trans HGb6.out
        have hGk7 := (hb7.block _ (lt_of_heap HGk.out)).trans HGk.out
        have HGs := hideIt (And.intro hGl7 (And.intro hGb7 (And.intro hGk7 hGo)))
        have Hne : Hid (V2.heap.size < V4.heap.size ∧ V4.heap.size < V6.heap.size) := ⟨hsl4, hsk⟩
        clear hb7 hGo hGl7 hGb7 hGk7 HR6 HF6 HGl6 HGb6 HGk
        obtain ⟨own, hown⟩ : ∃ own : Hd, own = hd0 := ⟨_, rfl⟩
        rw [← hown] at HGs HHs
        clear hown
        cases htl : l.tells
        · have HNd : Hid (nodeH (S.has tt l.key) l = own) := by show _ = _; rw [HHs.out]; unfold nodeH; rw [if_neg (fun h => by have := h.1; rw [htl] at this; cases this)]
          obtain ⟨l0, l1, l2, l3, l4, l5, l6⟩ := Hl7.out _ HGs.out.1
          rw [htl] at l3
          clear htl
          go_upto_region 12 with fail
          clear l0 l1 l2 l3 l4 l5 l6 HHs
          have HR12 := HR7
          have HF12 := HF7
          clear HR7 HF7
          generalize V7 = V12 at *
          generalize own = nw at *
          obtain ⟨w13, hrun, hm13, hg13, hs13⟩ := MapK.store (t := 53) pairKD (((HR12.out.below (Below.refl _ _).drew).facts .M trivial).1) Tryz.underlying53 (few_of HPl2.out.fw) hwf nw
          obtain ⟨hR13, hF13⟩ := (HR12.out.below (Below.refl _ _).drew).setM hm13 hg13
          have hst : (Instr.mapUpdate 53 (.map (some K.M)) (.agg #[.int .i64 tt, .int .i64 l.key]) (.agg #[.int .i64 nw.s.t, .int .i64 nw.s.c, .int .i64 nw.v])).run Tryz.prog V12.drew = .ok () w13 := by rw [← eM]; exact hrun
          have hkp : ∀ (b : Nat) (cs : Array Value) (t : TypeId), V12.heap[b]? = some (.cells cs t) → w13.heap[b]? = some (.cells cs t) := fun b cs t hb => by
            refine (hg13.block b (lt_of_heap hb) fun e => ?_).trans hb
            have h1 := HR12.out.tag (p := .M) trivial rfl
            rw [← Option.some.inj e, hb] at h1
            exact absurd h1 (by simp [Pc.tag, tagD])
          have HG13 : Hid (w13.heap[V2.heap.size]? = some (.cells #[.int .i64 l.c, .int .i64 l.key, .int .i64 l.rd, .bool l.tells, .int .i64 l.h.s.t, .int .i64 l.h.s.c, .int .i64 l.h.v] 144) ∧ w13.heap[V1.heap.size]? = some (.cells #[.int .i64 fr, .int .i64 tt, .int .i64 (q : Int)] 140) ∧ w13.heap[V6.heap.size]? = some (.cells #[.int .i64 nw.s.t, .int .i64 nw.s.c, .int .i64 nw.v] 105)) := ⟨hkp _ _ _ HGs.out.1, hkp _ _ _ HGs.out.2.1, hkp _ _ _ HGs.out.2.2.2⟩
          have HR13 := hideIt hR13
          have HF13 := hideIt ((HF12.out.trans (DFr.below (Below.refl _ _).drew)).trans hF13)
          have c9 : V12.cell? ⟨K.B, 9, none⟩ = some (.map (some K.M)) := by rw [← eB, ← eM]; exact HR12.out.cells.2.2.2.1
          have kk := fun i => cell_of_row V12 V4.heap.size i _ 145 _ HGs.out.2.2.1
          have k0 : V12.cell? ⟨V4.heap.size, 0, none⟩ = some (.int .i64 tt) := by rw [kk]; rfl
          have k1 : V12.cell? ⟨V4.heap.size, 1, none⟩ = some (.int .i64 l.key) := by rw [kk]; rfl
          obtain ⟨o0, o1, o2⟩ := blk3 HGs.out.2.2.2
          clear kk hrun hm13 hg13 hs13 hR13 hF13 hkp HR12 HF12 HGs
          go_region
          all_goals as_aux_lemma =>
            clear c9 k0 k1 o0 o1 o2 hst
            obtain ⟨o0, o1, o2⟩ := blk3 HG13.out.2.2
            obtain ⟨l0, l1, l2, l3, l4, l5, l6⟩ := Hl7.out _ HG13.out.1
            have fl := fun j => frozen_of_row w13 V2.heap.size j _ 144 HG13.out.1
            have f4 := fl 4
            have f5 := fl 5
            have f6 := fl 6
            have n26 : ¬ V2.heap.size = V6.heap.size := by have := Hne.out; omega
            clear fl
            go_upto_region 14 with fail
            clear l0 l1 l2 l3 l4 l5 l6 o0 o1 o2 f4 f5 f6
            have hL14 : (((w13.setCell ⟨V2.heap.size, 4, none⟩ (.int .i64 nw.s.t)).setCell ⟨V2.heap.size, 5, none⟩ (.int .i64 nw.s.c)).setCell ⟨V2.heap.size, 6, none⟩ (.int .i64 nw.v)).heap[V2.heap.size]? = some (.cells #[.int .i64 l.c, .int .i64 l.key, .int .i64 l.rd, .bool l.tells, .int .i64 nw.s.t, .int .i64 nw.s.c, .int .i64 nw.v] 144) := heap_setCell_same _ _ 6 _ 144 _ (heap_setCell_same _ _ 5 _ 144 _ (heap_setCell_same _ _ 4 _ 144 _ HG13.out.1))
            have hoth : ∀ b, b ≠ V2.heap.size → (((w13.setCell ⟨V2.heap.size, 4, none⟩ (.int .i64 nw.s.t)).setCell ⟨V2.heap.size, 5, none⟩ (.int .i64 nw.s.c)).setCell ⟨V2.heap.size, 6, none⟩ (.int .i64 nw.v)).heap[b]? = w13.heap[b]? := fun b hb => ((Below.heap_setCell _ _ _ b hb).trans (Below.heap_setCell _ _ _ b hb)).trans (Below.heap_setCell _ _ _ b hb)
            have hlo : w0.heap.size ≤ V2.heap.size := Nat.le_trans ((HR13.out.facts .B trivial).blk (b := K1.B) rfl).1 (Nat.le_of_lt (HAt.out .B K1.B trivial rfl))
            have hbl : Below w0.heap.size w0 (((w13.setCell ⟨V2.heap.size, 4, none⟩ (.int .i64 nw.s.t)).setCell ⟨V2.heap.size, 5, none⟩ (.int .i64 nw.s.c)).setCell ⟨V2.heap.size, 6, none⟩ (.int .i64 nw.v)) := ((HR13.out.bel.setCell (p := ⟨V2.heap.size, 4, none⟩) hlo _).setCell (p := ⟨V2.heap.size, 5, none⟩) hlo _).setCell (p := ⟨V2.heap.size, 6, none⟩) hlo _
            have hsz14 : (((w13.setCell ⟨V2.heap.size, 4, none⟩ (.int .i64 nw.s.t)).setCell ⟨V2.heap.size, 5, none⟩ (.int .i64 nw.s.c)).setCell ⟨V2.heap.size, 6, none⟩ (.int .i64 nw.v)).heap.size = w13.heap.size := by simp
            have hM14 := (hoth V1.heap.size (by have := Hsz.out; omega)).trans HG13.out.2.1
            generalize ((w13.setCell ⟨V2.heap.size, 4, none⟩ (.int .i64 nw.s.t)).setCell ⟨V2.heap.size, 5, none⟩ (.int .i64 nw.s.c)).setCell ⟨V2.heap.size, 6, none⟩ (.int .i64 nw.v) = V14 at *
            have hR14 : DoR w0 V14 { K1 with f := putK2 K1.f tt l.key nw } { S with mails := ms } := HR13.out.keep hbl (fun p b hp hb => hoth b (by have := HAt.out p b hp (by cases p <;> exact hb); omega)) fun b hb => hoth b fun e => by
              subst e
              unfold LTg at hb
              rw [HG13.out.1] at hb
              simp [tagD] at hb
            have hF14 : DFr K S.k W V14 { K1 with f := putK2 K1.f tt l.key nw } := ⟨HF13.out.fix, by rw [hsz14]; exact HF13.out.size, fun b hb hn => (hoth b (by have := HWs.out; omega)).trans (HF13.out.rest b hb hn), HF13.out.own⟩
            have hP14 := HPl2.out.put ⟨ht0, by omega⟩ ⟨hk0, hk8⟩ nw
            have HSd : Hid (Calls Tryz.prog 70 #[.pointer (some ⟨K.B, 0, none⟩), .int .i64 tt, .int .i64 fr, .agg #[.int .i64 l.c, .int .i64 l.key, .int .i64 l.rd, .bool l.tells, .int .i64 nw.s.t, .int .i64 nw.s.c, .int .i64 nw.v]] V14 fun en W' => en = .returned (.tuple #[]) ∧ DoTold 7 w0 K S W Pend W') := by
              have hln := hP14.len
              have hq := sendD_any (hR14.cast ms (updH S.has tt l.key nw) S.links) hP14 (by have := hln; have h6 : ms.length ≤ 500 := Nat.le_trans hml h5'; show K1.L.length ≤ 500; have h7 : ms.length = K1.L.length := hln; omega) (by show K1.lt.length ≤ 50000; omega) tt fr { l with h := nw }
              rw [← eB]
              refine Calls.mono hq ?_
              rintro e Z2 ⟨rfl, K3, d1, d2, d3, d4⟩
              refine ⟨rfl, ?_⟩
              have e1 : Pend = { S with has := updH S.has tt l.key nw, mails := sendL ms ⟨tt, fr, { l with h := nw }⟩ } := by
                rw [HPd.out]
                unfold takeS
                show (if tt < (S.n : Int) then nodeS { S with mails := ms } ⟨fr, tt, l⟩ else _) = _
                rw [if_pos hnd]
                unfold nodeS
                show ({ S with has := updH S.has tt l.key (nodeH (S.has tt l.key) l), mails := sendL ms ⟨tt, fr, { l with h := nodeH (S.has tt l.key) l }⟩ } : Sto) = _
                rw [HNd.out]
              rw [e1]
              exact ⟨K3, d1, d2, by have : K3.lt.length ≤ K1.lt.length + 1 := d3; omega, hF14.trans d4⟩
            have cc := fun i => cell_of_row V14 V2.heap.size i _ 144 _ hL14
            have l0 : V14.cell? ⟨V2.heap.size, 0, none⟩ = some (.int .i64 l.c) := by rw [cc]; rfl
            have l1 : V14.cell? ⟨V2.heap.size, 1, none⟩ = some (.int .i64 l.key) := by rw [cc]; rfl
            have l2 : V14.cell? ⟨V2.heap.size, 2, none⟩ = some (.int .i64 l.rd) := by rw [cc]; rfl
            have l3 : V14.cell? ⟨V2.heap.size, 3, none⟩ = some (.bool l.tells) := by rw [cc]; rfl
            have l4 : V14.cell? ⟨V2.heap.size, 4, none⟩ = some (.int .i64 nw.s.t) := by rw [cc]; rfl
            have l5 : V14.cell? ⟨V2.heap.size, 5, none⟩ = some (.int .i64 nw.s.c) := by rw [cc]; rfl
            have l6 : V14.cell? ⟨V2.heap.size, 6, none⟩ = some (.int .i64 nw.v) := by rw [cc]; rfl
            obtain ⟨b0, b1, b2⟩ := blk3 hM14
            clear cc hL14 hoth hbl hM14 hR14 hF14 hP14 HR13 HF13 HG13
            go_wp2_with fail
            refine HSd.out.mono ?_
            rintro e V15 ⟨rfl, hT⟩
            have HT := hideIt hT
            clear hT HSd l0 l1 l2 l3 l4 l5 l6 b0 b1 b2
            go_wp2
            go_ret
            exact ⟨rfl, HT.out⟩
        · obtain ⟨l0, l1, l2, l3, l4, l5, l6⟩ := Hl7.out _ HGs.out.1
          rw [htl] at l3
          obtain ⟨o0, o1, o2⟩ := blk3 HGs.out.2.2.2
          have HLs := hideIt (fun Z => less_any own.s l.h.s Z)
          have Htl := hideIt htl
          clear htl
          go_wp2_with fail
          refine (HLs.out _).mono ?_
          rintro e V8 ⟨rfl, hb8⟩
          have HR8 := hideIt (HR7.out.below hb8)
          have HF8 := hideIt (HF7.out.trans (DFr.below hb8))
          have HG8 := hideIt (And.intro ((hb8.block _ (lt_of_heap HGs.out.1)).trans HGs.out.1) (And.intro ((hb8.block _ (lt_of_heap HGs.out.2.1)).trans HGs.out.2.1) (And.intro ((hb8.block _ (lt_of_heap HGs.out.2.2.1)).trans HGs.out.2.2.1) ((hb8.block _ (lt_of_heap HGs.out.2.2.2)).trans HGs.out.2.2.2))))
          clear l0 l1 l2 l3 l4 l5 l6 o0 o1 o2 HR7 HF7 HGs hb8 HLs
          cases hl9 : decide (own.s.lt l.h.s)
          · have HNd : Hid (nodeH (S.has tt l.key) l = own) := by show _ = _; rw [HHs.out]; unfold nodeH; rw [if_neg (fun h => of_decide_eq_false hl9 h.2)]
            clear hl9 Htl HHs
            go_upto_region 12 with fail
            have HR12 := HR8
            have HF12 := HF8
            have HGs := HG8
            clear HR8 HF8 HG8
            generalize V8 = V12 at *
            generalize own = nw at *
            obtain ⟨w13, hrun, hm13, hg13, hs13⟩ := MapK.store (t := 53) pairKD (((HR12.out.below (Below.refl _ _).drew).facts .M trivial).1) Tryz.underlying53 (few_of HPl2.out.fw) hwf nw
            obtain ⟨hR13, hF13⟩ := (HR12.out.below (Below.refl _ _).drew).setM hm13 hg13
            have hst : (Instr.mapUpdate 53 (.map (some K.M)) (.agg #[.int .i64 tt, .int .i64 l.key]) (.agg #[.int .i64 nw.s.t, .int .i64 nw.s.c, .int .i64 nw.v])).run Tryz.prog V12.drew = .ok () w13 := by rw [← eM]; exact hrun
            have hkp : ∀ (b : Nat) (cs : Array Value) (t : TypeId), V12.heap[b]? = some (.cells cs t) → w13.heap[b]? = some (.cells cs t) := fun b cs t hb => by
              refine (hg13.block b (lt_of_heap hb) fun e => ?_).trans hb
              have h1 := HR12.out.tag (p := .M) trivial rfl
              rw [← Option.some.inj e, hb] at h1
              exact absurd h1 (by simp [Pc.tag, tagD])
            have HG13 : Hid (w13.heap[V2.heap.size]? = some (.cells #[.int .i64 l.c, .int .i64 l.key, .int .i64 l.rd, .bool l.tells, .int .i64 l.h.s.t, .int .i64 l.h.s.c, .int .i64 l.h.v] 144) ∧ w13.heap[V1.heap.size]? = some (.cells #[.int .i64 fr, .int .i64 tt, .int .i64 (q : Int)] 140) ∧ w13.heap[V6.heap.size]? = some (.cells #[.int .i64 nw.s.t, .int .i64 nw.s.c, .int .i64 nw.v] 105)) := ⟨hkp _ _ _ HGs.out.1, hkp _ _ _ HGs.out.2.1, hkp _ _ _ HGs.out.2.2.2⟩
            have HR13 := hideIt hR13
            have HF13 := hideIt ((HF12.out.trans (DFr.below (Below.refl _ _).drew)).trans hF13)
            have c9 : V12.cell? ⟨K.B, 9, none⟩ = some (.map (some K.M)) := by rw [← eB, ← eM]; exact HR12.out.cells.2.2.2.1
            have kk := fun i => cell_of_row V12 V4.heap.size i _ 145 _ HGs.out.2.2.1
            have k0 : V12.cell? ⟨V4.heap.size, 0, none⟩ = some (.int .i64 tt) := by rw [kk]; rfl
            have k1 : V12.cell? ⟨V4.heap.size, 1, none⟩ = some (.int .i64 l.key) := by rw [kk]; rfl
            obtain ⟨o0, o1, o2⟩ := blk3 HGs.out.2.2.2
            clear kk hrun hm13 hg13 hs13 hR13 hF13 hkp HR12 HF12 HGs
            go_region
            all_goals as_aux_lemma =>
              clear c9 k0 k1 o0 o1 o2 hst
              obtain ⟨o0, o1, o2⟩ := blk3 HG13.out.2.2
              obtain ⟨l0, l1, l2, l3, l4, l5, l6⟩ := Hl7.out _ HG13.out.1
              have fl := fun j => frozen_of_row w13 V2.heap.size j _ 144 HG13.out.1
              have f4 := fl 4
              have f5 := fl 5
              have f6 := fl 6
              have n26 : ¬ V2.heap.size = V6.heap.size := by have := Hne.out; omega
              clear fl
              go_upto_region 14 with fail
              clear l0 l1 l2 l3 l4 l5 l6 o0 o1 o2 f4 f5 f6
              have hL14 : (((w13.setCell ⟨V2.heap.size, 4, none⟩ (.int .i64 nw.s.t)).setCell ⟨V2.heap.size, 5, none⟩ (.int .i64 nw.s.c)).setCell ⟨V2.heap.size, 6, none⟩ (.int .i64 nw.v)).heap[V2.heap.size]? = some (.cells #[.int .i64 l.c, .int .i64 l.key, .int .i64 l.rd, .bool l.tells, .int .i64 nw.s.t, .int .i64 nw.s.c, .int .i64 nw.v] 144) := heap_setCell_same _ _ 6 _ 144 _ (heap_setCell_same _ _ 5 _ 144 _ (heap_setCell_same _ _ 4 _ 144 _ HG13.out.1))
              have hoth : ∀ b, b ≠ V2.heap.size → (((w13.setCell ⟨V2.heap.size, 4, none⟩ (.int .i64 nw.s.t)).setCell ⟨V2.heap.size, 5, none⟩ (.int .i64 nw.s.c)).setCell ⟨V2.heap.size, 6, none⟩ (.int .i64 nw.v)).heap[b]? = w13.heap[b]? := fun b hb => ((Below.heap_setCell _ _ _ b hb).trans (Below.heap_setCell _ _ _ b hb)).trans (Below.heap_setCell _ _ _ b hb)
              have hlo : w0.heap.size ≤ V2.heap.size := Nat.le_trans ((HR13.out.facts .B trivial).blk (b := K1.B) rfl).1 (Nat.le_of_lt (HAt.out .B K1.B trivial rfl))
              have hbl : Below w0.heap.size w0 (((w13.setCell ⟨V2.heap.size, 4, none⟩ (.int .i64 nw.s.t)).setCell ⟨V2.heap.size, 5, none⟩ (.int .i64 nw.s.c)).setCell ⟨V2.heap.size, 6, none⟩ (.int .i64 nw.v)) := ((HR13.out.bel.setCell (p := ⟨V2.heap.size, 4, none⟩) hlo _).setCell (p := ⟨V2.heap.size, 5, none⟩) hlo _).setCell (p := ⟨V2.heap.size, 6, none⟩) hlo _
              have hsz14 : (((w13.setCell ⟨V2.heap.size, 4, none⟩ (.int .i64 nw.s.t)).setCell ⟨V2.heap.size, 5, none⟩ (.int .i64 nw.s.c)).setCell ⟨V2.heap.size, 6, none⟩ (.int .i64 nw.v)).heap.size = w13.heap.size := by simp
              have hM14 := (hoth V1.heap.size (by have := Hsz.out; omega)).trans HG13.out.2.1
              generalize ((w13.setCell ⟨V2.heap.size, 4, none⟩ (.int .i64 nw.s.t)).setCell ⟨V2.heap.size, 5, none⟩ (.int .i64 nw.s.c)).setCell ⟨V2.heap.size, 6, none⟩ (.int .i64 nw.v) = V14 at *
              have hR14 : DoR w0 V14 { K1 with f := putK2 K1.f tt l.key nw } { S with mails := ms } := HR13.out.keep hbl (fun p b hp hb => hoth b (by have := HAt.out p b hp (by cases p <;> exact hb); omega)) fun b hb => hoth b fun e => by
                subst e
                unfold LTg at hb
                rw [HG13.out.1] at hb
                simp [tagD] at hb
              have hF14 : DFr K S.k W V14 { K1 with f := putK2 K1.f tt l.key nw } := ⟨HF13.out.fix, by rw [hsz14]; exact HF13.out.size, fun b hb hn => (hoth b (by have := HWs.out; omega)).trans (HF13.out.rest b hb hn), HF13.out.own⟩
              have hP14 := HPl2.out.put ⟨ht0, by omega⟩ ⟨hk0, hk8⟩ nw
              have HSd : Hid (Calls Tryz.prog 70 #[.pointer (some ⟨K.B, 0, none⟩), .int .i64 tt, .int .i64 fr, .agg #[.int .i64 l.c, .int .i64 l.key, .int .i64 l.rd, .bool l.tells, .int .i64 nw.s.t, .int .i64 nw.s.c, .int .i64 nw.v]] V14 fun en W' => en = .returned (.tuple #[]) ∧ DoTold 7 w0 K S W Pend W') := by
                have hln := hP14.len
                have hq := sendD_any (hR14.cast ms (updH S.has tt l.key nw) S.links) hP14 (by have := hln; have h6 : ms.length ≤ 500 := Nat.le_trans hml h5'; show K1.L.length ≤ 500; have h7 : ms.length = K1.L.length := hln; omega) (by show K1.lt.length ≤ 50000; omega) tt fr { l with h := nw }
                rw [← eB]
                refine Calls.mono hq ?_
                rintro e Z2 ⟨rfl, K3, d1, d2, d3, d4⟩
                refine ⟨rfl, ?_⟩
                have e1 : Pend = { S with has := updH S.has tt l.key nw, mails := sendL ms ⟨tt, fr, { l with h := nw }⟩ } := by
                  rw [HPd.out]
                  unfold takeS
                  show (if tt < (S.n : Int) then nodeS { S with mails := ms } ⟨fr, tt, l⟩ else _) = _
                  rw [if_pos hnd]
                  unfold nodeS
                  show ({ S with has := updH S.has tt l.key (nodeH (S.has tt l.key) l), mails := sendL ms ⟨tt, fr, { l with h := nodeH (S.has tt l.key) l }⟩ } : Sto) = _
                  rw [HNd.out]
                rw [e1]
                exact ⟨K3, d1, d2, by have : K3.lt.length ≤ K1.lt.length + 1 := d3; omega, hF14.trans d4⟩
              have cc := fun i => cell_of_row V14 V2.heap.size i _ 144 _ hL14
              have l0 : V14.cell? ⟨V2.heap.size, 0, none⟩ = some (.int .i64 l.c) := by rw [cc]; rfl
              have l1 : V14.cell? ⟨V2.heap.size, 1, none⟩ = some (.int .i64 l.key) := by rw [cc]; rfl
              have l2 : V14.cell? ⟨V2.heap.size, 2, none⟩ = some (.int .i64 l.rd) := by rw [cc]; rfl
              have l3 : V14.cell? ⟨V2.heap.size, 3, none⟩ = some (.bool l.tells) := by rw [cc]; rfl
              have l4 : V14.cell? ⟨V2.heap.size, 4, none⟩ = some (.int .i64 nw.s.t) := by rw [cc]; rfl
              have l5 : V14.cell? ⟨V2.heap.size, 5, none⟩ = some (.int .i64 nw.s.c) := by rw [cc]; rfl
              have l6 : V14.cell? ⟨V2.heap.size, 6, none⟩ = some (.int .i64 nw.v) := by rw [cc]; rfl
              obtain ⟨b0, b1, b2⟩ := blk3 hM14
              clear cc hL14 hoth hbl hM14 hR14 hF14 hP14 HR13 HF13 HG13
              go_wp2_with fail
              refine HSd.out.mono ?_
              rintro e V15 ⟨rfl, hT⟩
              have HT := hideIt hT
              clear hT HSd l0 l1 l2 l3 l4 l5 l6 b0 b1 b2
              go_wp2
              go_ret
              exact ⟨rfl, HT.out⟩
          · have HNd : Hid (nodeH (S.has tt l.key) l = l.h) := by show _ = _; rw [HHs.out]; unfold nodeH; rw [if_pos ⟨Htl.out, of_decide_eq_true hl9⟩]
            clear hl9 HHs
            obtain ⟨l0, l1, l2, l3, l4, l5, l6⟩ := Hl7.out _ HG8.out.1
            obtain ⟨o0, o1, o2⟩ := blk3 HG8.out.2.2.2
            have fo := fun j => frozen_of_row V8 V6.heap.size j _ 105 HG8.out.2.2.2
            have f0 := fo 0
            have f1 := fo 1
            have f2 := fo 2
            have n62 : ¬ V6.heap.size = V2.heap.size := by have := Hne.out; omega
            clear fo
            go_upto_region 12 with fail
            clear l0 l1 l2 l3 l4 l5 l6 o0 o1 o2 f0 f1 f2
            have hGo : (((V8.setCell ⟨V6.heap.size, 0, none⟩ (.int .i64 l.h.s.t)).setCell ⟨V6.heap.size, 1, none⟩ (.int .i64 l.h.s.c)).setCell ⟨V6.heap.size, 2, none⟩ (.int .i64 l.h.v)).heap[V6.heap.size]? = some (.cells #[.int .i64 l.h.s.t, .int .i64 l.h.s.c, .int .i64 l.h.v] 105) := heap_setCell_same _ _ 2 _ 105 _ (heap_setCell_same _ _ 1 _ 105 _ (heap_setCell_same _ _ 0 _ 105 _ HG8.out.2.2.2))
            have hoth : ∀ b, b ≠ V6.heap.size → (((V8.setCell ⟨V6.heap.size, 0, none⟩ (.int .i64 l.h.s.t)).setCell ⟨V6.heap.size, 1, none⟩ (.int .i64 l.h.s.c)).setCell ⟨V6.heap.size, 2, none⟩ (.int .i64 l.h.v)).heap[b]? = V8.heap[b]? := fun b hb => ((Below.heap_setCell _ _ _ b hb).trans (Below.heap_setCell _ _ _ b hb)).trans (Below.heap_setCell _ _ _ b hb)
            have hlo : w0.heap.size ≤ V6.heap.size := Nat.le_trans (Nat.le_trans ((HR8.out.facts .B trivial).blk (b := K1.B) rfl).1 (Nat.le_of_lt (HAt.out .B K1.B trivial rfl))) (by have := Hne.out; omega)
            have hbl : Below w0.heap.size w0 (((V8.setCell ⟨V6.heap.size, 0, none⟩ (.int .i64 l.h.s.t)).setCell ⟨V6.heap.size, 1, none⟩ (.int .i64 l.h.s.c)).setCell ⟨V6.heap.size, 2, none⟩ (.int .i64 l.h.v)) := ((HR8.out.bel.setCell (p := ⟨V6.heap.size, 0, none⟩) hlo _).setCell (p := ⟨V6.heap.size, 1, none⟩) hlo _).setCell (p := ⟨V6.heap.size, 2, none⟩) hlo _
            have hsz12 : (((V8.setCell ⟨V6.heap.size, 0, none⟩ (.int .i64 l.h.s.t)).setCell ⟨V6.heap.size, 1, none⟩ (.int .i64 l.h.s.c)).setCell ⟨V6.heap.size, 2, none⟩ (.int .i64 l.h.v)).heap.size = V8.heap.size := by simp
            generalize ((V8.setCell ⟨V6.heap.size, 0, none⟩ (.int .i64 l.h.s.t)).setCell ⟨V6.heap.size, 1, none⟩ (.int .i64 l.h.s.c)).setCell ⟨V6.heap.size, 2, none⟩ (.int .i64 l.h.v) = V12 at *
            have HR12 : Hid (DoR w0 V12 K1 { S with mails := ms }) := HR8.out.keep hbl (fun p b hp hb => hoth b (by have := HAt.out p b hp hb; have := Hne.out; omega)) fun b hb => hoth b fun e => by
              subst e
              unfold LTg at hb
              rw [HG8.out.2.2.2] at hb
              simp [tagD] at hb
            have HF12 : Hid (DFr K S.k W V12 K1) := ⟨HF8.out.fix, by rw [hsz12]; exact HF8.out.size, fun b hb hn => (hoth b (by have := HWs.out; have := Hne.out; omega)).trans (HF8.out.rest b hb hn), HF8.out.own⟩
            have h1 := (hoth V2.heap.size (by omega)).trans HG8.out.1
            have h2 := (hoth V1.heap.size (by have := Hsz.out; have := Hne.out; omega)).trans HG8.out.2.1
            have h3 := (hoth V4.heap.size (by have := Hne.out; omega)).trans HG8.out.2.2.1
            obtain ⟨nw, hnw⟩ : ∃ nw : Hd, nw = l.h := ⟨_, rfl⟩
            rw [← hnw] at hGo HNd
            have HGs := hideIt (And.intro h1 (And.intro h2 (And.intro h3 hGo)))
            clear h1 h2 h3 hGo hoth hbl hsz12 HR8 HF8 HG8 hnw hlo
            obtain ⟨w13, hrun, hm13, hg13, hs13⟩ := MapK.store (t := 53) pairKD (((HR12.out.below (Below.refl _ _).drew).facts .M trivial).1) Tryz.underlying53 (few_of HPl2.out.fw) hwf nw
            obtain ⟨hR13, hF13⟩ := (HR12.out.below (Below.refl _ _).drew).setM hm13 hg13
            have hst : (Instr.mapUpdate 53 (.map (some K.M)) (.agg #[.int .i64 tt, .int .i64 l.key]) (.agg #[.int .i64 nw.s.t, .int .i64 nw.s.c, .int .i64 nw.v])).run Tryz.prog V12.drew = .ok () w13 := by rw [← eM]; exact hrun
            have hkp : ∀ (b : Nat) (cs : Array Value) (t : TypeId), V12.heap[b]? = some (.cells cs t) → w13.heap[b]? = some (.cells cs t) := fun b cs t hb => by
              refine (hg13.block b (lt_of_heap hb) fun e => ?_).trans hb
              have h1 := HR12.out.tag (p := .M) trivial rfl
              rw [← Option.some.inj e, hb] at h1
              exact absurd h1 (by simp [Pc.tag, tagD])
            have HG13 : Hid (w13.heap[V2.heap.size]? = some (.cells #[.int .i64 l.c, .int .i64 l.key, .int .i64 l.rd, .bool l.tells, .int .i64 l.h.s.t, .int .i64 l.h.s.c, .int .i64 l.h.v] 144) ∧ w13.heap[V1.heap.size]? = some (.cells #[.int .i64 fr, .int .i64 tt, .int .i64 (q : Int)] 140) ∧ w13.heap[V6.heap.size]? = some (.cells #[.int .i64 nw.s.t, .int .i64 nw.s.c, .int .i64 nw.v] 105)) := ⟨hkp _ _ _ HGs.out.1, hkp _ _ _ HGs.out.2.1, hkp _ _ _ HGs.out.2.2.2⟩
            have HR13 := hideIt hR13
            have HF13 := hideIt ((HF12.out.trans (DFr.below (Below.refl _ _).drew)).trans hF13)
            have c9 : V12.cell? ⟨K.B, 9, none⟩ = some (.map (some K.M)) := by rw [← eB, ← eM]; exact HR12.out.cells.2.2.2.1
            have kk := fun i => cell_of_row V12 V4.heap.size i _ 145 _ HGs.out.2.2.1
            have k0 : V12.cell? ⟨V4.heap.size, 0, none⟩ = some (.int .i64 tt) := by rw [kk]; rfl
            have k1 : V12.cell? ⟨V4.heap.size, 1, none⟩ = some (.int .i64 l.key) := by rw [kk]; rfl
            obtain ⟨o0, o1, o2⟩ := blk3 HGs.out.2.2.2
            clear kk hrun hm13 hg13 hs13 hR13 hF13 hkp HR12 HF12 HGs
            go_region
            all_goals as_aux_lemma =>
              clear c9 k0 k1 o0 o1 o2 hst
              obtain ⟨o0, o1, o2⟩ := blk3 HG13.out.2.2
              obtain ⟨l0, l1, l2, l3, l4, l5, l6⟩ := Hl7.out _ HG13.out.1
              have fl := fun j => frozen_of_row w13 V2.heap.size j _ 144 HG13.out.1
              have f4 := fl 4
              have f5 := fl 5
              have f6 := fl 6
              have n26 : ¬ V2.heap.size = V6.heap.size := by have := Hne.out; omega
              clear fl
              go_upto_region 14 with fail
              clear l0 l1 l2 l3 l4 l5 l6 o0 o1 o2 f4 f5 f6
              have hL14 : (((w13.setCell ⟨V2.heap.size, 4, none⟩ (.int .i64 nw.s.t)).setCell ⟨V2.heap.size, 5, none⟩ (.int .i64 nw.s.c)).setCell ⟨V2.heap.size, 6, none⟩ (.int .i64 nw.v)).heap[V2.heap.size]? = some (.cells #[.int .i64 l.c, .int .i64 l.key, .int .i64 l.rd, .bool l.tells, .int .i64 nw.s.t, .int .i64 nw.s.c, .int .i64 nw.v] 144) := heap_setCell_same _ _ 6 _ 144 _ (heap_setCell_same _ _ 5 _ 144 _ (heap_setCell_same _ _ 4 _ 144 _ HG13.out.1))
              have hoth : ∀ b, b ≠ V2.heap.size → (((w13.setCell ⟨V2.heap.size, 4, none⟩ (.int .i64 nw.s.t)).setCell ⟨V2.heap.size, 5, none⟩ (.int .i64 nw.s.c)).setCell ⟨V2.heap.size, 6, none⟩ (.int .i64 nw.v)).heap[b]? = w13.heap[b]? := fun b hb => ((Below.heap_setCell _ _ _ b hb).trans (Below.heap_setCell _ _ _ b hb)).trans (Below.heap_setCell _ _ _ b hb)
              have hlo : w0.heap.size ≤ V2.heap.size := Nat.le_trans ((HR13.out.facts .B trivial).blk (b := K1.B) rfl).1 (Nat.le_of_lt (HAt.out .B K1.B trivial rfl))
              have hbl : Below w0.heap.size w0 (((w13.setCell ⟨V2.heap.size, 4, none⟩ (.int .i64 nw.s.t)).setCell ⟨V2.heap.size, 5, none⟩ (.int .i64 nw.s.c)).setCell ⟨V2.heap.size, 6, none⟩ (.int .i64 nw.v)) := ((HR13.out.bel.setCell (p := ⟨V2.heap.size, 4, none⟩) hlo _).setCell (p := ⟨V2.heap.size, 5, none⟩) hlo _).setCell (p := ⟨V2.heap.size, 6, none⟩) hlo _
              have hsz14 : (((w13.setCell ⟨V2.heap.size, 4, none⟩ (.int .i64 nw.s.t)).setCell ⟨V2.heap.size, 5, none⟩ (.int .i64 nw.s.c)).setCell ⟨V2.heap.size, 6, none⟩ (.int .i64 nw.v)).heap.size = w13.heap.size := by simp
              have hM14 := (hoth V1.heap.size (by have := Hsz.out; omega)).trans HG13.out.2.1
              generalize ((w13.setCell ⟨V2.heap.size, 4, none⟩ (.int .i64 nw.s.t)).setCell ⟨V2.heap.size, 5, none⟩ (.int .i64 nw.s.c)).setCell ⟨V2.heap.size, 6, none⟩ (.int .i64 nw.v) = V14 at *
              have hR14 : DoR w0 V14 { K1 with f := putK2 K1.f tt l.key nw } { S with mails := ms } := HR13.out.keep hbl (fun p b hp hb => hoth b (by have := HAt.out p b hp (by cases p <;> exact hb); omega)) fun b hb => hoth b fun e => by
                subst e
                unfold LTg at hb
                rw [HG13.out.1] at hb
                simp [tagD] at hb
              have hF14 : DFr K S.k W V14 { K1 with f := putK2 K1.f tt l.key nw } := ⟨HF13.out.fix, by rw [hsz14]; exact HF13.out.size, fun b hb hn => (hoth b (by have := HWs.out; omega)).trans (HF13.out.rest b hb hn), HF13.out.own⟩
              have hP14 := HPl2.out.put ⟨ht0, by omega⟩ ⟨hk0, hk8⟩ nw
              have HSd : Hid (Calls Tryz.prog 70 #[.pointer (some ⟨K.B, 0, none⟩), .int .i64 tt, .int .i64 fr, .agg #[.int .i64 l.c, .int .i64 l.key, .int .i64 l.rd, .bool l.tells, .int .i64 nw.s.t, .int .i64 nw.s.c, .int .i64 nw.v]] V14 fun en W' => en = .returned (.tuple #[]) ∧ DoTold 7 w0 K S W Pend W') := by
                have hln := hP14.len
                have hq := sendD_any (hR14.cast ms (updH S.has tt l.key nw) S.links) hP14 (by have := hln; have h6 : ms.length ≤ 500 := Nat.le_trans hml h5'; show K1.L.length ≤ 500; have h7 : ms.length = K1.L.length := hln; omega) (by show K1.lt.length ≤ 50000; omega) tt fr { l with h := nw }
                rw [← eB]
                refine Calls.mono hq ?_
                rintro e Z2 ⟨rfl, K3, d1, d2, d3, d4⟩
                refine ⟨rfl, ?_⟩
                have e1 : Pend = { S with has := updH S.has tt l.key nw, mails := sendL ms ⟨tt, fr, { l with h := nw }⟩ } := by
                  rw [HPd.out]
                  unfold takeS
                  show (if tt < (S.n : Int) then nodeS { S with mails := ms } ⟨fr, tt, l⟩ else _) = _
                  rw [if_pos hnd]
                  unfold nodeS
                  show ({ S with has := updH S.has tt l.key (nodeH (S.has tt l.key) l), mails := sendL ms ⟨tt, fr, { l with h := nodeH (S.has tt l.key) l }⟩ } : Sto) = _
                  rw [HNd.out]
                rw [e1]
                exact ⟨K3, d1, d2, by have : K3.lt.length ≤ K1.lt.length + 1 := d3; omega, hF14.trans d4⟩
              have cc := fun i => cell_of_row V14 V2.heap.size i _ 144 _ hL14
              have l0 : V14.cell? ⟨V2.heap.size, 0, none⟩ = some (.int .i64 l.c) := by rw [cc]; rfl
              have l1 : V14.cell? ⟨V2.heap.size, 1, none⟩ = some (.int .i64 l.key) := by rw [cc]; rfl
              have l2 : V14.cell? ⟨V2.heap.size, 2, none⟩ = some (.int .i64 l.rd) := by rw [cc]; rfl
              have l3 : V14.cell? ⟨V2.heap.size, 3, none⟩ = some (.bool l.tells) := by rw [cc]; rfl
              have l4 : V14.cell? ⟨V2.heap.size, 4, none⟩ = some (.int .i64 nw.s.t) := by rw [cc]; rfl
              have l5 : V14.cell? ⟨V2.heap.size, 5, none⟩ = some (.int .i64 nw.s.c) := by rw [cc]; rfl
              have l6 : V14.cell? ⟨V2.heap.size, 6, none⟩ = some (.int .i64 nw.v) := by rw [cc]; rfl
              obtain ⟨b0, b1, b2⟩ := blk3 hM14
              clear cc hL14 hoth hbl hM14 hR14 hF14 hP14 HR13 HF13 HG13
              go_wp2_with fail
              refine HSd.out.mono ?_
              rintro e V15 ⟨rfl, hT⟩
              have HT := hideIt hT
              clear hT HSd l0 l1 l2 l3 l4 l5 l6 b0 b1 b2
              go_wp2
              go_ret
              exact ⟨rfl, HT.out⟩
    | some x =>
      have HLk : Hid (∀ Z, Below V6.heap.size V6 Z → (Instr.lookup 53 (.map (some K.M)) (.agg #[.int .i64 tt, .int .i64 l.key]) true).run Tryz.prog Z = .ok (.tuple #[.agg #[.int .i64 x.s.t, .int .i64 x.s.c, .int .i64 x.v], .bool true]) Z) := fun Z hZ => by
        have hq := (((HR6.out.below hZ).facts .M trivial).1).look_ok pairKD Tryz.underlying53 (zeroHd Z) hwf
        rw [hf, eM] at hq
        exact hq
      have lk1 := HLk.out V6.drew (Below.refl _ _).drew
      have lk2 := HLk.out (V6.alloc (.cells #[.int .i64 0, .int .i64 0, .int .i64 0] 105)).drew (belA (Below.refl _ _) _).drew
      have HHs : Hid (S.has tt l.key = x) := by show _ = _; rw [HHas.out, hf]; rfl
      clear HHas hf HLk
      go_region
      all_goals as_aux_lemma =>
        go_upto_region 10 with fail
        have hb7 : Below V6.heap.size V6 ((V6.alloc (.cells #[.int .i64 x.s.t, .int .i64 x.s.c, .int .i64 x.v] 105)).drew) := (belA (Below.refl _ V6) _).drew
        have hGo : ((V6.alloc (.cells #[.int .i64 x.s.t, .int .i64 x.s.c, .int .i64 x.v] 105)).drew).heap[V6.heap.size]? = some (.cells #[.int .i64 (x).s.t, .int .i64 (x).s.c, .int .i64 (x).v] 105) := heap_alloc_new V6 _
        clear lk1 lk2 k0 k1 c9
        generalize (V6.alloc (.cells #[.int .i64 x.s.t, .int .i64 x.s.c, .int .i64 x.v] 105)).drew = V7 at *
        have HR7 := hideIt (HR6.out.below hb7)
        have HF7 := hideIt (HF6.out.trans (DFr.below hb7))
        have hGl7 := (hb7.block _ (lt_of_heap HGl6.out)).trans HGl6.out
        have hGb7 := (hb7.block _ (lt_of_heap HGb6.out)).trans HGb6.out
        have hGk7 := (hb7.block _ (lt_of_heap HGk.out)).trans HGk.out
        have HGs := hideIt (And.intro hGl7 (And.intro hGb7 (And.intro hGk7 hGo)))
        have Hne : Hid (V2.heap.size < V4.heap.size ∧ V4.heap.size < V6.heap.size) := ⟨hsl4, hsk⟩
        clear hb7 hGo hGl7 hGb7 hGk7 HR6 HF6 HGl6 HGb6 HGk
        obtain ⟨own, hown⟩ : ∃ own : Hd, own = x := ⟨_, rfl⟩
        rw [← hown] at HGs HHs
        clear hown
        cases htl : l.tells
        · have HNd : Hid (nodeH (S.has tt l.key) l = own) := by show _ = _; rw [HHs.out]; unfold nodeH; rw [if_neg (fun h => by have := h.1; rw [htl] at this; cases this)]
          obtain ⟨l0, l1, l2, l3, l4, l5, l6⟩ := Hl7.out _ HGs.out.1
          rw [htl] at l3
          clear htl
          go_upto_region 12 with fail
          clear l0 l1 l2 l3 l4 l5 l6 HHs
          have HR12 := HR7
          have HF12 := HF7
          clear HR7 HF7
          generalize V7 = V12 at *
          generalize own = nw at *
          obtain ⟨w13, hrun, hm13, hg13, hs13⟩ := MapK.store (t := 53) pairKD (((HR12.out.below (Below.refl _ _).drew).facts .M trivial).1) Tryz.underlying53 (few_of HPl2.out.fw) hwf nw
          obtain ⟨hR13, hF13⟩ := (HR12.out.below (Below.refl _ _).drew).setM hm13 hg13
          have hst : (Instr.mapUpdate 53 (.map (some K.M)) (.agg #[.int .i64 tt, .int .i64 l.key]) (.agg #[.int .i64 nw.s.t, .int .i64 nw.s.c, .int .i64 nw.v])).run Tryz.prog V12.drew = .ok () w13 := by rw [← eM]; exact hrun
          have hkp : ∀ (b : Nat) (cs : Array Value) (t : TypeId), V12.heap[b]? = some (.cells cs t) → w13.heap[b]? = some (.cells cs t) := fun b cs t hb => by
            refine (hg13.block b (lt_of_heap hb) fun e => ?_).trans hb
            have h1 := HR12.out.tag (p := .M) trivial rfl
            rw [← Option.some.inj e, hb] at h1
            exact absurd h1 (by simp [Pc.tag, tagD])
          have HG13 : Hid (w13.heap[V2.heap.size]? = some (.cells #[.int .i64 l.c, .int .i64 l.key, .int .i64 l.rd, .bool l.tells, .int .i64 l.h.s.t, .int .i64 l.h.s.c, .int .i64 l.h.v] 144) ∧ w13.heap[V1.heap.size]? = some (.cells #[.int .i64 fr, .int .i64 tt, .int .i64 (q : Int)] 140) ∧ w13.heap[V6.heap.size]? = some (.cells #[.int .i64 nw.s.t, .int .i64 nw.s.c, .int .i64 nw.v] 105)) := ⟨hkp _ _ _ HGs.out.1, hkp _ _ _ HGs.out.2.1, hkp _ _ _ HGs.out.2.2.2⟩
          have HR13 := hideIt hR13
          have HF13 := hideIt ((HF12.out.trans (DFr.below (Below.refl _ _).drew)).trans hF13)
          have c9 : V12.cell? ⟨K.B, 9, none⟩ = some (.map (some K.M)) := by rw [← eB, ← eM]; exact HR12.out.cells.2.2.2.1
          have kk := fun i => cell_of_row V12 V4.heap.size i _ 145 _ HGs.out.2.2.1
          have k0 : V12.cell? ⟨V4.heap.size, 0, none⟩ = some (.int .i64 tt) := by rw [kk]; rfl
          have k1 : V12.cell? ⟨V4.heap.size, 1, none⟩ = some (.int .i64 l.key) := by rw [kk]; rfl
          obtain ⟨o0, o1, o2⟩ := blk3 HGs.out.2.2.2
          clear kk hrun hm13 hg13 hs13 hR13 hF13 hkp HR12 HF12 HGs
          go_region
          all_goals as_aux_lemma =>
            clear c9 k0 k1 o0 o1 o2 hst
            obtain ⟨o0, o1, o2⟩ := blk3 HG13.out.2.2
            obtain ⟨l0, l1, l2, l3, l4, l5, l6⟩ := Hl7.out _ HG13.out.1
            have fl := fun j => frozen_of_row w13 V2.heap.size j _ 144 HG13.out.1
            have f4 := fl 4
            have f5 := fl 5
            have f6 := fl 6
            have n26 : ¬ V2.heap.size = V6.heap.size := by have := Hne.out; omega
            clear fl
            go_upto_region 14 with fail
            clear l0 l1 l2 l3 l4 l5 l6 o0 o1 o2 f4 f5 f6
            have hL14 : (((w13.setCell ⟨V2.heap.size, 4, none⟩ (.int .i64 nw.s.t)).setCell ⟨V2.heap.size, 5, none⟩ (.int .i64 nw.s.c)).setCell ⟨V2.heap.size, 6, none⟩ (.int .i64 nw.v)).heap[V2.heap.size]? = some (.cells #[.int .i64 l.c, .int .i64 l.key, .int .i64 l.rd, .bool l.tells, .int .i64 nw.s.t, .int .i64 nw.s.c, .int .i64 nw.v] 144) := heap_setCell_same _ _ 6 _ 144 _ (heap_setCell_same _ _ 5 _ 144 _ (heap_setCell_same _ _ 4 _ 144 _ HG13.out.1))
            have hoth : ∀ b, b ≠ V2.heap.size → (((w13.setCell ⟨V2.heap.size, 4, none⟩ (.int .i64 nw.s.t)).setCell ⟨V2.heap.size, 5, none⟩ (.int .i64 nw.s.c)).setCell ⟨V2.heap.size, 6, none⟩ (.int .i64 nw.v)).heap[b]? = w13.heap[b]? := fun b hb => ((Below.heap_setCell _ _ _ b hb).trans (Below.heap_setCell _ _ _ b hb)).trans (Below.heap_setCell _ _ _ b hb)
            have hlo : w0.heap.size ≤ V2.heap.size := Nat.le_trans ((HR13.out.facts .B trivial).blk (b := K1.B) rfl).1 (Nat.le_of_lt (HAt.out .B K1.B trivial rfl))
            have hbl : Below w0.heap.size w0 (((w13.setCell ⟨V2.heap.size, 4, none⟩ (.int .i64 nw.s.t)).setCell ⟨V2.heap.size, 5, none⟩ (.int .i64 nw.s.c)).setCell ⟨V2.heap.size, 6, none⟩ (.int .i64 nw.v)) := ((HR13.out.bel.setCell (p := ⟨V2.heap.size, 4, none⟩) hlo _).setCell (p := ⟨V2.heap.size, 5, none⟩) hlo _).setCell (p := ⟨V2.heap.size, 6, none⟩) hlo _
            have hsz14 : (((w13.setCell ⟨V2.heap.size, 4, none⟩ (.int .i64 nw.s.t)).setCell ⟨V2.heap.size, 5, none⟩ (.int .i64 nw.s.c)).setCell ⟨V2.heap.size, 6, none⟩ (.int .i64 nw.v)).heap.size = w13.heap.size := by simp
            have hM14 := (hoth V1.heap.size (by have := Hsz.out; omega)).trans HG13.out.2.1
            generalize ((w13.setCell ⟨V2.heap.size, 4, none⟩ (.int .i64 nw.s.t)).setCell ⟨V2.heap.size, 5, none⟩ (.int .i64 nw.s.c)).setCell ⟨V2.heap.size, 6, none⟩ (.int .i64 nw.v) = V14 at *
            have hR14 : DoR w0 V14 { K1 with f := putK2 K1.f tt l.key nw } { S with mails := ms } := HR13.out.keep hbl (fun p b hp hb => hoth b (by have := HAt.out p b hp (by cases p <;> exact hb); omega)) fun b hb => hoth b fun e => by
              subst e
              unfold LTg at hb
              rw [HG13.out.1] at hb
              simp [tagD] at hb
            have hF14 : DFr K S.k W V14 { K1 with f := putK2 K1.f tt l.key nw } := ⟨HF13.out.fix, by rw [hsz14]; exact HF13.out.size, fun b hb hn => (hoth b (by have := HWs.out; omega)).trans (HF13.out.rest b hb hn), HF13.out.own⟩
            have hP14 := HPl2.out.put ⟨ht0, by omega⟩ ⟨hk0, hk8⟩ nw
            have HSd : Hid (Calls Tryz.prog 70 #[.pointer (some ⟨K.B, 0, none⟩), .int .i64 tt, .int .i64 fr, .agg #[.int .i64 l.c, .int .i64 l.key, .int .i64 l.rd, .bool l.tells, .int .i64 nw.s.t, .int .i64 nw.s.c, .int .i64 nw.v]] V14 fun en W' => en = .returned (.tuple #[]) ∧ DoTold 7 w0 K S W Pend W') := by
              have hln := hP14.len
              have hq := sendD_any (hR14.cast ms (updH S.has tt l.key nw) S.links) hP14 (by have := hln; have h6 : ms.length ≤ 500 := Nat.le_trans hml h5'; show K1.L.length ≤ 500; have h7 : ms.length = K1.L.length := hln; omega) (by show K1.lt.length ≤ 50000; omega) tt fr { l with h := nw }
              rw [← eB]
              refine Calls.mono hq ?_
              rintro e Z2 ⟨rfl, K3, d1, d2, d3, d4⟩
              refine ⟨rfl, ?_⟩
              have e1 : Pend = { S with has := updH S.has tt l.key nw, mails := sendL ms ⟨tt, fr, { l with h := nw }⟩ } := by
                rw [HPd.out]
                unfold takeS
                show (if tt < (S.n : Int) then nodeS { S with mails := ms } ⟨fr, tt, l⟩ else _) = _
                rw [if_pos hnd]
                unfold nodeS
                show ({ S with has := updH S.has tt l.key (nodeH (S.has tt l.key) l), mails := sendL ms ⟨tt, fr, { l with h := nodeH (S.has tt l.key) l }⟩ } : Sto) = _
                rw [HNd.out]
              rw [e1]
              exact ⟨K3, d1, d2, by have : K3.lt.length ≤ K1.lt.length + 1 := d3; omega, hF14.trans d4⟩
            have cc := fun i => cell_of_row V14 V2.heap.size i _ 144 _ hL14
            have l0 : V14.cell? ⟨V2.heap.size, 0, none⟩ = some (.int .i64 l.c) := by rw [cc]; rfl
            have l1 : V14.cell? ⟨V2.heap.size, 1, none⟩ = some (.int .i64 l.key) := by rw [cc]; rfl
            have l2 : V14.cell? ⟨V2.heap.size, 2, none⟩ = some (.int .i64 l.rd) := by rw [cc]; rfl
            have l3 : V14.cell? ⟨V2.heap.size, 3, none⟩ = some (.bool l.tells) := by rw [cc]; rfl
            have l4 : V14.cell? ⟨V2.heap.size, 4, none⟩ = some (.int .i64 nw.s.t) := by rw [cc]; rfl
            have l5 : V14.cell? ⟨V2.heap.size, 5, none⟩ = some (.int .i64 nw.s.c) := by rw [cc]; rfl
            have l6 : V14.cell? ⟨V2.heap.size, 6, none⟩ = some (.int .i64 nw.v) := by rw [cc]; rfl
            obtain ⟨b0, b1, b2⟩ := blk3 hM14
            clear cc hL14 hoth hbl hM14 hR14 hF14 hP14 HR13 HF13 HG13
            go_wp2_with fail
            refine HSd.out.mono ?_
            rintro e V15 ⟨rfl, hT⟩
            have HT := hideIt hT
            clear hT HSd l0 l1 l2 l3 l4 l5 l6 b0 b1 b2
            go_wp2
            go_ret
            exact ⟨rfl, HT.out⟩
        · obtain ⟨l0, l1, l2, l3, l4, l5, l6⟩ := Hl7.out _ HGs.out.1
          rw [htl] at l3
          obtain ⟨o0, o1, o2⟩ := blk3 HGs.out.2.2.2
          have HLs := hideIt (fun Z => less_any own.s l.h.s Z)
          have Htl := hideIt htl
          clear htl
          go_wp2_with fail
          refine (HLs.out _).mono ?_
          rintro e V8 ⟨rfl, hb8⟩
          have HR8 := hideIt (HR7.out.below hb8)
          have HF8 := hideIt (HF7.out.trans (DFr.below hb8))
          have HG8 := hideIt (And.intro ((hb8.block _ (lt_of_heap HGs.out.1)).trans HGs.out.1) (And.intro ((hb8.block _ (lt_of_heap HGs.out.2.1)).trans HGs.out.2.1) (And.intro ((hb8.block _ (lt_of_heap HGs.out.2.2.1)).trans HGs.out.2.2.1) ((hb8.block _ (lt_of_heap HGs.out.2.2.2)).trans HGs.out.2.2.2))))
          clear l0 l1 l2 l3 l4 l5 l6 o0 o1 o2 HR7 HF7 HGs hb8 HLs
          cases hl9 : decide (own.s.lt l.h.s)
          · have HNd : Hid (nodeH (S.has tt l.key) l = own) := by show _ = _; rw [HHs.out]; unfold nodeH; rw [if_neg (fun h => of_decide_eq_false hl9 h.2)]
            clear hl9 Htl HHs
            go_upto_region 12 with fail
            have HR12 := HR8
            have HF12 := HF8
            have HGs := HG8
            clear HR8 HF8 HG8
            generalize V8 = V12 at *
            generalize own = nw at *
            obtain ⟨w13, hrun, hm13, hg13, hs13⟩ := MapK.store (t := 53) pairKD (((HR12.out.below (Below.refl _ _).drew).facts .M trivial).1) Tryz.underlying53 (few_of HPl2.out.fw) hwf nw
            obtain ⟨hR13, hF13⟩ := (HR12.out.below (Below.refl _ _).drew).setM hm13 hg13
            have hst : (Instr.mapUpdate 53 (.map (some K.M)) (.agg #[.int .i64 tt, .int .i64 l.key]) (.agg #[.int .i64 nw.s.t, .int .i64 nw.s.c, .int .i64 nw.v])).run Tryz.prog V12.drew = .ok () w13 := by rw [← eM]; exact hrun
            have hkp : ∀ (b : Nat) (cs : Array Value) (t : TypeId), V12.heap[b]? = some (.cells cs t) → w13.heap[b]? = some (.cells cs t) := fun b cs t hb => by
              refine (hg13.block b (lt_of_heap hb) fun e => ?_).trans hb
              have h1 := HR12.out.tag (p := .M) trivial rfl
              rw [← Option.some.inj e, hb] at h1
              exact absurd h1 (by simp [Pc.tag, tagD])
            have HG13 : Hid (w13.heap[V2.heap.size]? = some (.cells #[.int .i64 l.c, .int .i64 l.key, .int .i64 l.rd, .bool l.tells, .int .i64 l.h.s.t, .int .i64 l.h.s.c, .int .i64 l.h.v] 144) ∧ w13.heap[V1.heap.size]? = some (.cells #[.int .i64 fr, .int .i64 tt, .int .i64 (q : Int)] 140) ∧ w13.heap[V6.heap.size]? = some (.cells #[.int .i64 nw.s.t, .int .i64 nw.s.c, .int .i64 nw.v] 105)) := ⟨hkp _ _ _ HGs.out.1, hkp _ _ _ HGs.out.2.1, hkp _ _ _ HGs.out.2.2.2⟩
            have HR13 := hideIt hR13
            have HF13 := hideIt ((HF12.out.trans (DFr.below (Below.refl _ _).drew)).trans hF13)
            have c9 : V12.cell? ⟨K.B, 9, none⟩ = some (.map (some K.M)) := by rw [← eB, ← eM]; exact HR12.out.cells.2.2.2.1
            have kk := fun i => cell_of_row V12 V4.heap.size i _ 145 _ HGs.out.2.2.1
            have k0 : V12.cell? ⟨V4.heap.size, 0, none⟩ = some (.int .i64 tt) := by rw [kk]; rfl
            have k1 : V12.cell? ⟨V4.heap.size, 1, none⟩ = some (.int .i64 l.key) := by rw [kk]; rfl
            obtain ⟨o0, o1, o2⟩ := blk3 HGs.out.2.2.2
            clear kk hrun hm13 hg13 hs13 hR13 hF13 hkp HR12 HF12 HGs
            go_region
            all_goals as_aux_lemma =>
              clear c9 k0 k1 o0 o1 o2 hst
              obtain ⟨o0, o1, o2⟩ := blk3 HG13.out.2.2
              obtain ⟨l0, l1, l2, l3, l4, l5, l6⟩ := Hl7.out _ HG13.out.1
              have fl := fun j => frozen_of_row w13 V2.heap.size j _ 144 HG13.out.1
              have f4 := fl 4
              have f5 := fl 5
              have f6 := fl 6
              have n26 : ¬ V2.heap.size = V6.heap.size := by have := Hne.out; omega
              clear fl
              go_upto_region 14 with fail
              clear l0 l1 l2 l3 l4 l5 l6 o0 o1 o2 f4 f5 f6
              have hL14 : (((w13.setCell ⟨V2.heap.size, 4, none⟩ (.int .i64 nw.s.t)).setCell ⟨V2.heap.size, 5, none⟩ (.int .i64 nw.s.c)).setCell ⟨V2.heap.size, 6, none⟩ (.int .i64 nw.v)).heap[V2.heap.size]? = some (.cells #[.int .i64 l.c, .int .i64 l.key, .int .i64 l.rd, .bool l.tells, .int .i64 nw.s.t, .int .i64 nw.s.c, .int .i64 nw.v] 144) := heap_setCell_same _ _ 6 _ 144 _ (heap_setCell_same _ _ 5 _ 144 _ (heap_setCell_same _ _ 4 _ 144 _ HG13.out.1))
              have hoth : ∀ b, b ≠ V2.heap.size → (((w13.setCell ⟨V2.heap.size, 4, none⟩ (.int .i64 nw.s.t)).setCell ⟨V2.heap.size, 5, none⟩ (.int .i64 nw.s.c)).setCell ⟨V2.heap.size, 6, none⟩ (.int .i64 nw.v)).heap[b]? = w13.heap[b]? := fun b hb => ((Below.heap_setCell _ _ _ b hb).trans (Below.heap_setCell _ _ _ b hb)).trans (Below.heap_setCell _ _ _ b hb)
              have hlo : w0.heap.size ≤ V2.heap.size := Nat.le_trans ((HR13.out.facts .B trivial).blk (b := K1.B) rfl).1 (Nat.le_of_lt (HAt.out .B K1.B trivial rfl))
              have hbl : Below w0.heap.size w0 (((w13.setCell ⟨V2.heap.size, 4, none⟩ (.int .i64 nw.s.t)).setCell ⟨V2.heap.size, 5, none⟩ (.int .i64 nw.s.c)).setCell ⟨V2.heap.size, 6, none⟩ (.int .i64 nw.v)) := ((HR13.out.bel.setCell (p := ⟨V2.heap.size, 4, none⟩) hlo _).setCell (p := ⟨V2.heap.size, 5, none⟩) hlo _).setCell (p := ⟨V2.heap.size, 6, none⟩) hlo _
              have hsz14 : (((w13.setCell ⟨V2.heap.size, 4, none⟩ (.int .i64 nw.s.t)).setCell ⟨V2.heap.size, 5, none⟩ (.int .i64 nw.s.c)).setCell ⟨V2.heap.size, 6, none⟩ (.int .i64 nw.v)).heap.size = w13.heap.size := by simp
              have hM14 := (hoth V1.heap.size (by have := Hsz.out; omega)).trans HG13.out.2.1
              generalize ((w13.setCell ⟨V2.heap.size, 4, none⟩ (.int .i64 nw.s.t)).setCell ⟨V2.heap.size, 5, none⟩ (.int .i64 nw.s.c)).setCell ⟨V2.heap.size, 6, none⟩ (.int .i64 nw.v) = V14 at *
              have hR14 : DoR w0 V14 { K1 with f := putK2 K1.f tt l.key nw } { S with mails := ms } := HR13.out.keep hbl (fun p b hp hb => hoth b (by have := HAt.out p b hp (by cases p <;> exact hb); omega)) fun b hb => hoth b fun e => by
                subst e
                unfold LTg at hb
                rw [HG13.out.1] at hb
                simp [tagD] at hb
              have hF14 : DFr K S.k W V14 { K1 with f := putK2 K1.f tt l.key nw } := ⟨HF13.out.fix, by rw [hsz14]; exact HF13.out.size, fun b hb hn => (hoth b (by have := HWs.out; omega)).trans (HF13.out.rest b hb hn), HF13.out.own⟩
              have hP14 := HPl2.out.put ⟨ht0, by omega⟩ ⟨hk0, hk8⟩ nw
              have HSd : Hid (Calls Tryz.prog 70 #[.pointer (some ⟨K.B, 0, none⟩), .int .i64 tt, .int .i64 fr, .agg #[.int .i64 l.c, .int .i64 l.key, .int .i64 l.rd, .bool l.tells, .int .i64 nw.s.t, .int .i64 nw.s.c, .int .i64 nw.v]] V14 fun en W' => en = .returned (.tuple #[]) ∧ DoTold 7 w0 K S W Pend W') := by
                have hln := hP14.len
                have hq := sendD_any (hR14.cast ms (updH S.has tt l.key nw) S.links) hP14 (by have := hln; have h6 : ms.length ≤ 500 := Nat.le_trans hml h5'; show K1.L.length ≤ 500; have h7 : ms.length = K1.L.length := hln; omega) (by show K1.lt.length ≤ 50000; omega) tt fr { l with h := nw }
                rw [← eB]
                refine Calls.mono hq ?_
                rintro e Z2 ⟨rfl, K3, d1, d2, d3, d4⟩
                refine ⟨rfl, ?_⟩
                have e1 : Pend = { S with has := updH S.has tt l.key nw, mails := sendL ms ⟨tt, fr, { l with h := nw }⟩ } := by
                  rw [HPd.out]
                  unfold takeS
                  show (if tt < (S.n : Int) then nodeS { S with mails := ms } ⟨fr, tt, l⟩ else _) = _
                  rw [if_pos hnd]
                  unfold nodeS
                  show ({ S with has := updH S.has tt l.key (nodeH (S.has tt l.key) l), mails := sendL ms ⟨tt, fr, { l with h := nodeH (S.has tt l.key) l }⟩ } : Sto) = _
                  rw [HNd.out]
                rw [e1]
                exact ⟨K3, d1, d2, by have : K3.lt.length ≤ K1.lt.length + 1 := d3; omega, hF14.trans d4⟩
              have cc := fun i => cell_of_row V14 V2.heap.size i _ 144 _ hL14
              have l0 : V14.cell? ⟨V2.heap.size, 0, none⟩ = some (.int .i64 l.c) := by rw [cc]; rfl
              have l1 : V14.cell? ⟨V2.heap.size, 1, none⟩ = some (.int .i64 l.key) := by rw [cc]; rfl
              have l2 : V14.cell? ⟨V2.heap.size, 2, none⟩ = some (.int .i64 l.rd) := by rw [cc]; rfl
              have l3 : V14.cell? ⟨V2.heap.size, 3, none⟩ = some (.bool l.tells) := by rw [cc]; rfl
              have l4 : V14.cell? ⟨V2.heap.size, 4, none⟩ = some (.int .i64 nw.s.t) := by rw [cc]; rfl
              have l5 : V14.cell? ⟨V2.heap.size, 5, none⟩ = some (.int .i64 nw.s.c) := by rw [cc]; rfl
              have l6 : V14.cell? ⟨V2.heap.size, 6, none⟩ = some (.int .i64 nw.v) := by rw [cc]; rfl
              obtain ⟨b0, b1, b2⟩ := blk3 hM14
              clear cc hL14 hoth hbl hM14 hR14 hF14 hP14 HR13 HF13 HG13
              go_wp2_with fail
              refine HSd.out.mono ?_
              rintro e V15 ⟨rfl, hT⟩
              have HT := hideIt hT
              clear hT HSd l0 l1 l2 l3 l4 l5 l6 b0 b1 b2
              go_wp2
              go_ret
              exact ⟨rfl, HT.out⟩
          · have HNd : Hid (nodeH (S.has tt l.key) l = l.h) := by show _ = _; rw [HHs.out]; unfold nodeH; rw [if_pos ⟨Htl.out, of_decide_eq_true hl9⟩]
            clear hl9 HHs
            obtain ⟨l0, l1, l2, l3, l4, l5, l6⟩ := Hl7.out _ HG8.out.1
            obtain ⟨o0, o1, o2⟩ := blk3 HG8.out.2.2.2
            have fo := fun j => frozen_of_row V8 V6.heap.size j _ 105 HG8.out.2.2.2
            have f0 := fo 0
            have f1 := fo 1
            have f2 := fo 2
            have n62 : ¬ V6.heap.size = V2.heap.size := by have := Hne.out; omega
            clear fo
            go_upto_region 12 with fail
            clear l0 l1 l2 l3 l4 l5 l6 o0 o1 o2 f0 f1 f2
            have hGo : (((V8.setCell ⟨V6.heap.size, 0, none⟩ (.int .i64 l.h.s.t)).setCell ⟨V6.heap.size, 1, none⟩ (.int .i64 l.h.s.c)).setCell ⟨V6.heap.size, 2, none⟩ (.int .i64 l.h.v)).heap[V6.heap.size]? = some (.cells #[.int .i64 l.h.s.t, .int .i64 l.h.s.c, .int .i64 l.h.v] 105) := heap_setCell_same _ _ 2 _ 105 _ (heap_setCell_same _ _ 1 _ 105 _ (heap_setCell_same _ _ 0 _ 105 _ HG8.out.2.2.2))
            have hoth : ∀ b, b ≠ V6.heap.size → (((V8.setCell ⟨V6.heap.size, 0, none⟩ (.int .i64 l.h.s.t)).setCell ⟨V6.heap.size, 1, none⟩ (.int .i64 l.h.s.c)).setCell ⟨V6.heap.size, 2, none⟩ (.int .i64 l.h.v)).heap[b]? = V8.heap[b]? := fun b hb => ((Below.heap_setCell _ _ _ b hb).trans (Below.heap_setCell _ _ _ b hb)).trans (Below.heap_setCell _ _ _ b hb)
            have hlo : w0.heap.size ≤ V6.heap.size := Nat.le_trans (Nat.le_trans ((HR8.out.facts .B trivial).blk (b := K1.B) rfl).1 (Nat.le_of_lt (HAt.out .B K1.B trivial rfl))) (by have := Hne.out; omega)
            have hbl : Below w0.heap.size w0 (((V8.setCell ⟨V6.heap.size, 0, none⟩ (.int .i64 l.h.s.t)).setCell ⟨V6.heap.size, 1, none⟩ (.int .i64 l.h.s.c)).setCell ⟨V6.heap.size, 2, none⟩ (.int .i64 l.h.v)) := ((HR8.out.bel.setCell (p := ⟨V6.heap.size, 0, none⟩) hlo _).setCell (p := ⟨V6.heap.size, 1, none⟩) hlo _).setCell (p := ⟨V6.heap.size, 2, none⟩) hlo _
            have hsz12 : (((V8.setCell ⟨V6.heap.size, 0, none⟩ (.int .i64 l.h.s.t)).setCell ⟨V6.heap.size, 1, none⟩ (.int .i64 l.h.s.c)).setCell ⟨V6.heap.size, 2, none⟩ (.int .i64 l.h.v)).heap.size = V8.heap.size := by simp
            generalize ((V8.setCell ⟨V6.heap.size, 0, none⟩ (.int .i64 l.h.s.t)).setCell ⟨V6.heap.size, 1, none⟩ (.int .i64 l.h.s.c)).setCell ⟨V6.heap.size, 2, none⟩ (.int .i64 l.h.v) = V12 at *
            have HR12 : Hid (DoR w0 V12 K1 { S with mails := ms }) := HR8.out.keep hbl (fun p b hp hb => hoth b (by have := HAt.out p b hp hb; have := Hne.out; omega)) fun b hb => hoth b fun e => by
              subst e
              unfold LTg at hb
              rw [HG8.out.2.2.2] at hb
              simp [tagD] at hb
            have HF12 : Hid (DFr K S.k W V12 K1) := ⟨HF8.out.fix, by rw [hsz12]; exact HF8.out.size, fun b hb hn => (hoth b (by have := HWs.out; have := Hne.out; omega)).trans (HF8.out.rest b hb hn), HF8.out.own⟩
            have h1 := (hoth V2.heap.size (by omega)).trans HG8.out.1
            have h2 := (hoth V1.heap.size (by have := Hsz.out; have := Hne.out; omega)).trans HG8.out.2.1
            have h3 := (hoth V4.heap.size (by have := Hne.out; omega)).trans HG8.out.2.2.1
            obtain ⟨nw, hnw⟩ : ∃ nw : Hd, nw = l.h := ⟨_, rfl⟩
            rw [← hnw] at hGo HNd
            have HGs := hideIt (And.intro h1 (And.intro h2 (And.intro h3 hGo)))
            clear h1 h2 h3 hGo hoth hbl hsz12 HR8 HF8 HG8 hnw hlo
            obtain ⟨w13, hrun, hm13, hg13, hs13⟩ := MapK.store (t := 53) pairKD (((HR12.out.below (Below.refl _ _).drew).facts .M trivial).1) Tryz.underlying53 (few_of HPl2.out.fw) hwf nw
            obtain ⟨hR13, hF13⟩ := (HR12.out.below (Below.refl _ _).drew).setM hm13 hg13
            have hst : (Instr.mapUpdate 53 (.map (some K.M)) (.agg #[.int .i64 tt, .int .i64 l.key]) (.agg #[.int .i64 nw.s.t, .int .i64 nw.s.c, .int .i64 nw.v])).run Tryz.prog V12.drew = .ok () w13 := by rw [← eM]; exact hrun
            have hkp : ∀ (b : Nat) (cs : Array Value) (t : TypeId), V12.heap[b]? = some (.cells cs t) → w13.heap[b]? = some (.cells cs t) := fun b cs t hb => by
              refine (hg13.block b (lt_of_heap hb) fun e => ?_).trans hb
              have h1 := HR12.out.tag (p := .M) trivial rfl
              rw [← Option.some.inj e, hb] at h1
              exact absurd h1 (by simp [Pc.tag, tagD])
            have HG13 : Hid (w13.heap[V2.heap.size]? = some (.cells #[.int .i64 l.c, .int .i64 l.key, .int .i64 l.rd, .bool l.tells, .int .i64 l.h.s.t, .int .i64 l.h.s.c, .int .i64 l.h.v] 144) ∧ w13.heap[V1.heap.size]? = some (.cells #[.int .i64 fr, .int .i64 tt, .int .i64 (q : Int)] 140) ∧ w13.heap[V6.heap.size]? = some (.cells #[.int .i64 nw.s.t, .int .i64 nw.s.c, .int .i64 nw.v] 105)) := ⟨hkp _ _ _ HGs.out.1, hkp _ _ _ HGs.out.2.1, hkp _ _ _ HGs.out.2.2.2⟩
            have HR13 := hideIt hR13
            have HF13 := hideIt ((HF12.out.trans (DFr.below (Below.refl _ _).drew)).trans hF13)
            have c9 : V12.cell? ⟨K.B, 9, none⟩ = some (.map (some K.M)) := by rw [← eB, ← eM]; exact HR12.out.cells.2.2.2.1
            have kk := fun i => cell_of_row V12 V4.heap.size i _ 145 _ HGs.out.2.2.1
            have k0 : V12.cell? ⟨V4.heap.size, 0, none⟩ = some (.int .i64 tt) := by rw [kk]; rfl
            have k1 : V12.cell? ⟨V4.heap.size, 1, none⟩ = some (.int .i64 l.key) := by rw [kk]; rfl
            obtain ⟨o0, o1, o2⟩ := blk3 HGs.out.2.2.2
            clear kk hrun hm13 hg13 hs13 hR13 hF13 hkp HR12 HF12 HGs
            go_region
            all_goals as_aux_lemma =>
              clear c9 k0 k1 o0 o1 o2 hst
              obtain ⟨o0, o1, o2⟩ := blk3 HG13.out.2.2
              obtain ⟨l0, l1, l2, l3, l4, l5, l6⟩ := Hl7.out _ HG13.out.1
              have fl := fun j => frozen_of_row w13 V2.heap.size j _ 144 HG13.out.1
              have f4 := fl 4
              have f5 := fl 5
              have f6 := fl 6
              have n26 : ¬ V2.heap.size = V6.heap.size := by have := Hne.out; omega
              clear fl
              go_upto_region 14 with fail
              clear l0 l1 l2 l3 l4 l5 l6 o0 o1 o2 f4 f5 f6
              have hL14 : (((w13.setCell ⟨V2.heap.size, 4, none⟩ (.int .i64 nw.s.t)).setCell ⟨V2.heap.size, 5, none⟩ (.int .i64 nw.s.c)).setCell ⟨V2.heap.size, 6, none⟩ (.int .i64 nw.v)).heap[V2.heap.size]? = some (.cells #[.int .i64 l.c, .int .i64 l.key, .int .i64 l.rd, .bool l.tells, .int .i64 nw.s.t, .int .i64 nw.s.c, .int .i64 nw.v] 144) := heap_setCell_same _ _ 6 _ 144 _ (heap_setCell_same _ _ 5 _ 144 _ (heap_setCell_same _ _ 4 _ 144 _ HG13.out.1))
              have hoth : ∀ b, b ≠ V2.heap.size → (((w13.setCell ⟨V2.heap.size, 4, none⟩ (.int .i64 nw.s.t)).setCell ⟨V2.heap.size, 5, none⟩ (.int .i64 nw.s.c)).setCell ⟨V2.heap.size, 6, none⟩ (.int .i64 nw.v)).heap[b]? = w13.heap[b]? := fun b hb => ((Below.heap_setCell _ _ _ b hb).trans (Below.heap_setCell _ _ _ b hb)).trans (Below.heap_setCell _ _ _ b hb)
              have hlo : w0.heap.size ≤ V2.heap.size := Nat.le_trans ((HR13.out.facts .B trivial).blk (b := K1.B) rfl).1 (Nat.le_of_lt (HAt.out .B K1.B trivial rfl))
              have hbl : Below w0.heap.size w0 (((w13.setCell ⟨V2.heap.size, 4, none⟩ (.int .i64 nw.s.t)).setCell ⟨V2.heap.size, 5, none⟩ (.int .i64 nw.s.c)).setCell ⟨V2.heap.size, 6, none⟩ (.int .i64 nw.v)) := ((HR13.out.bel.setCell (p := ⟨V2.heap.size, 4, none⟩) hlo _).setCell (p := ⟨V2.heap.size, 5, none⟩) hlo _).setCell (p := ⟨V2.heap.size, 6, none⟩) hlo _
              have hsz14 : (((w13.setCell ⟨V2.heap.size, 4, none⟩ (.int .i64 nw.s.t)).setCell ⟨V2.heap.size, 5, none⟩ (.int .i64 nw.s.c)).setCell ⟨V2.heap.size, 6, none⟩ (.int .i64 nw.v)).heap.size = w13.heap.size := by simp
              have hM14 := (hoth V1.heap.size (by have := Hsz.out; omega)).trans HG13.out.2.1
              generalize ((w13.setCell ⟨V2.heap.size, 4, none⟩ (.int .i64 nw.s.t)).setCell ⟨V2.heap.size, 5, none⟩ (.int .i64 nw.s.c)).setCell ⟨V2.heap.size, 6, none⟩ (.int .i64 nw.v) = V14 at *
              have hR14 : DoR w0 V14 { K1 with f := putK2 K1.f tt l.key nw } { S with mails := ms } := HR13.out.keep hbl (fun p b hp hb => hoth b (by have := HAt.out p b hp (by cases p <;> exact hb); omega)) fun b hb => hoth b fun e => by
                subst e
                unfold LTg at hb
                rw [HG13.out.1] at hb
                simp [tagD] at hb
              have hF14 : DFr K S.k W V14 { K1 with f := putK2 K1.f tt l.key nw } := ⟨HF13.out.fix, by rw [hsz14]; exact HF13.out.size, fun b hb hn => (hoth b (by have := HWs.out; omega)).trans (HF13.out.rest b hb hn), HF13.out.own⟩
              have hP14 := HPl2.out.put ⟨ht0, by omega⟩ ⟨hk0, hk8⟩ nw
              have HSd : Hid (Calls Tryz.prog 70 #[.pointer (some ⟨K.B, 0, none⟩), .int .i64 tt, .int .i64 fr, .agg #[.int .i64 l.c, .int .i64 l.key, .int .i64 l.rd, .bool l.tells, .int .i64 nw.s.t, .int .i64 nw.s.c, .int .i64 nw.v]] V14 fun en W' => en = .returned (.tuple #[]) ∧ DoTold 7 w0 K S W Pend W') := by
                have hln := hP14.len
                have hq := sendD_any (hR14.cast ms (updH S.has tt l.key nw) S.links) hP14 (by have := hln; have h6 : ms.length ≤ 500 := Nat.le_trans hml h5'; show K1.L.length ≤ 500; have h7 : ms.length = K1.L.length := hln; omega) (by show K1.lt.length ≤ 50000; omega) tt fr { l with h := nw }
                rw [← eB]
                refine Calls.mono hq ?_
                rintro e Z2 ⟨rfl, K3, d1, d2, d3, d4⟩
                refine ⟨rfl, ?_⟩
                have e1 : Pend = { S with has := updH S.has tt l.key nw, mails := sendL ms ⟨tt, fr, { l with h := nw }⟩ } := by
                  rw [HPd.out]
                  unfold takeS
                  show (if tt < (S.n : Int) then nodeS { S with mails := ms } ⟨fr, tt, l⟩ else _) = _
                  rw [if_pos hnd]
                  unfold nodeS
                  show ({ S with has := updH S.has tt l.key (nodeH (S.has tt l.key) l), mails := sendL ms ⟨tt, fr, { l with h := nodeH (S.has tt l.key) l }⟩ } : Sto) = _
                  rw [HNd.out]
                rw [e1]
                exact ⟨K3, d1, d2, by have : K3.lt.length ≤ K1.lt.length + 1 := d3; omega, hF14.trans d4⟩
              have cc := fun i => cell_of_row V14 V2.heap.size i _ 144 _ hL14
              have l0 : V14.cell? ⟨V2.heap.size, 0, none⟩ = some (.int .i64 l.c) := by rw [cc]; rfl
              have l1 : V14.cell? ⟨V2.heap.size, 1, none⟩ = some (.int .i64 l.key) := by rw [cc]; rfl
              have l2 : V14.cell? ⟨V2.heap.size, 2, none⟩ = some (.int .i64 l.rd) := by rw [cc]; rfl
              have l3 : V14.cell? ⟨V2.heap.size, 3, none⟩ = some (.bool l.tells) := by rw [cc]; rfl
              have l4 : V14.cell? ⟨V2.heap.size, 4, none⟩ = some (.int .i64 nw.s.t) := by rw [cc]; rfl
              have l5 : V14.cell? ⟨V2.heap.size, 5, none⟩ = some (.int .i64 nw.s.c) := by rw [cc]; rfl
              have l6 : V14.cell? ⟨V2.heap.size, 6, none⟩ = some (.int .i64 nw.v) := by rw [cc]; rfl
              obtain ⟨b0, b1, b2⟩ := blk3 hM14
              clear cc hL14 hoth hbl hM14 hR14 hF14 hP14 HR13 HF13 HG13
              go_wp2_with fail
              refine HSd.out.mono ?_
              rintro e V15 ⟨rfl, hT⟩
              have HT := hideIt hT
              clear hT HSd l0 l1 l2 l3 l4 l5 l6 b0 b1 b2
              go_wp2
              go_ret
              exact ⟨rfl, HT.out⟩
  · have hnd' : decide (tt < (S.n : Int)) = false := decide_eq_false hnd
    obtain ⟨c, hc⟩ : ∃ c : Nat, tt = (S.n : Int) + (c : Int) := ⟨(tt - S.n).toNat, by omega⟩
    have hck : c < S.k := by have := ho2 (by omega); omega
    have hsub : tt - (S.n : Int) = (c : Int) := by omega
    have hn7 := HOk.out.n7
    have hwr : IntKind.i64.wrap (tt - (S.n : Int)) = (c : Int) := by rw [hsub]; exact IntWalk.i64_in _ (by have := HOk.out.k8; omega)
    have HHr : Hid (∀ Z : World, Below V4.heap.size V4 Z → Calls Tryz.prog 71 #[.pointer (some ⟨K.B, 0, none⟩), .int .i64 (c : Int), .int .i64 fr, .agg #[.int .i64 l.c, .int .i64 l.key, .int .i64 l.rd, .bool l.tells, .int .i64 l.h.s.t, .int .i64 l.h.s.c, .int .i64 l.h.v]] Z fun en W' => en = .returned (.tuple #[]) ∧ DoTold 7 w0 K S W Pend W') := fun Z hZ => by
      have hOk := HOk.out
      have hq := hearD_any (i := c) (HR4.out.below hZ) HPl2.out hOk.n7 hOk.k8 hs hck (hOk.cl c hck).1 (hOk.cl c hck).2.1 (hOk.cl c hck).2.2 (Nat.le_trans hml h5') (by omega) fr l ho3
      rw [eB] at hq
      refine hq.mono ?_
      rintro e Z2 ⟨rfl, K3, d1, d2, d3, d4⟩
      refine ⟨rfl, ?_⟩
      have e1 : Pend = hearS { S with mails := ms } (c : Int) fr l := by
        rw [HPd.out]
        unfold takeS
        show (if tt < (S.n : Int) then _ else hearS { S with mails := ms } (tt - (S.n : Int)) fr l) = _
        rw [if_neg hnd, hsub]
      rw [e1]
      exact ⟨K3, d1, d2, by omega, (HF4.out.trans (DFr.below hZ)).trans d4⟩
    obtain ⟨l0, l1, l2, l3, l4, l5, l6⟩ := Hl7.out _ HGl.out
    have Hnd := hideIt hnd
    clear HR4 HF4 HGb4 HPl2 HOk hsub hc hnd hnd' ho1 ho2 hck
    go_upto_region 5 with fail
    go_region
    go_upto_region 16 with fail
    go_region_with (go_at_call 71; refine (HHr.out _ ?_).mono ?_; exact (Below.refl _ _).drew.drew; rintro e V8 ⟨rfl, hT⟩)
    all_goals as_aux_lemma =>
      have HT8 := hideIt hT
      clear hT HHr HGl Hl7 l0 l1 l2 l3 l4 l5 l6 b0 b1 b2 c0
      go_wp2
      go_ret
      exact ⟨rfl, HT8.out⟩
end
end Go.Proofs.YtncnojgemmcplaaGreatDoor.St.Dc
