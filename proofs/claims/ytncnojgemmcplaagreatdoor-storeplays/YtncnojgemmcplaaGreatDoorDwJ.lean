/-
  The document's store, walked: hear.
-/
import Derived.Test.YtncnojgemmcplaaGreatDoorDwHZ
import Derived.BigQuiet
import Derived.Deep.RegionWith
namespace Go.Proofs.YtncnojgemmcplaaGreatDoor.St.Dc
open Go.RowKit

section
variable {w0 W V V' : World} {K : DoK} {S : Sto} {i : Nat}
set_option maxRecDepth 100000 in
set_option maxHeartbeats 32000000 in
theorem hearD_any (h : DoR w0 W K S) (hp : DoPl K S) (hn7 : S.n ≤ 7) (hk8 : S.k ≤ 8) (hs : S.seen.length ≤ 900) (hi : i < S.k) (hrd : 0 ≤ (S.cl i).rd ∧ (S.cl i).rd ≤ 100000) (hcn : (S.cl i).cnt.length ≤ 500) (hkt : -1 ≤ (S.cl i).kept.s.t ∧ (S.cl i).kept.s.t ≤ 100000) (h5 : S.mails.length ≤ 500) (hlt : K.lt.length ≤ 40000) (node : Int) (l : Ltr) (hlh : -1 ≤ l.h.s.t ∧ l.h.s.t ≤ 100000) :
    Calls Tryz.prog 71 #[.pointer (some ⟨K.B, 0, none⟩), .int .i64 (i : Int), .int .i64 node, .agg #[.int .i64 l.c, .int .i64 l.key, .int .i64 l.rd, .bool l.tells, .int .i64 l.h.s.t, .int .i64 l.h.s.c, .int .i64 l.h.v]] W fun en W' => en = .returned (.tuple #[]) ∧ DoTold 7 w0 K S W (hearS S i node l) W' := by
  obtain ⟨ra, rc, ecv, _⟩ := h.client hi
  have hb0 : Below W.heap.size W (W.alloc (.cells #[.int .i64 l.c, .int .i64 l.key, .int .i64 l.rd, .bool l.tells, .int .i64 l.h.s.t, .int .i64 l.h.s.c, .int .i64 l.h.v] 144)) := belA (Below.refl _ _) _
  have hi' : (i : Int) < (S.k : Int) := by omega
  have HV := hideIt (h.below hb0)
  have HB0 := hideIt hb0
  have hG0 : (W.alloc (.cells #[.int .i64 l.c, .int .i64 l.key, .int .i64 l.rd, .bool l.tells, .int .i64 l.h.s.t, .int .i64 l.h.s.c, .int .i64 l.h.v] 144)).heap[W.heap.size]? = some (.cells #[.int .i64 l.c, .int .i64 l.key, .int .i64 l.rd, .bool l.tells, .int .i64 l.h.s.t, .int .i64 l.h.s.c, .int .i64 l.h.v] 144) := heap_alloc_new W _
  have HG0 := hideIt hG0
  have HLb : Hid (∀ Z : World, Z.heap[W.heap.size]? = some (.cells #[.int .i64 l.c, .int .i64 l.key, .int .i64 l.rd, .bool l.tells, .int .i64 l.h.s.t, .int .i64 l.h.s.c, .int .i64 l.h.v] 144) → Z.cell? ⟨W.heap.size, 2, none⟩ = some (.int .i64 l.rd) ∧ Z.cell? ⟨W.heap.size, 4, none⟩ = some (.int .i64 l.h.s.t) ∧ Z.cell? ⟨W.heap.size, 5, none⟩ = some (.int .i64 l.h.s.c) ∧ Z.cell? ⟨W.heap.size, 6, none⟩ = some (.int .i64 l.h.v)) := fun Z hZ => by
    have hcc := fun i => cell_of_row Z W.heap.size i _ 144 _ hZ
    exact ⟨by rw [hcc]; rfl, by rw [hcc]; rfl, by rw [hcc]; rfl, by rw [hcc]; rfl⟩
  have HPl := hideIt hp
  have HKp : Hid (∀ Z, Below (W.alloc (.cells #[.int .i64 l.c, .int .i64 l.key, .int .i64 l.rd, .bool l.tells, .int .i64 l.h.s.t, .int .i64 l.h.s.c, .int .i64 l.h.v] 144)).heap.size (W.alloc (.cells #[.int .i64 l.c, .int .i64 l.key, .int .i64 l.rd, .bool l.tells, .int .i64 l.h.s.t, .int .i64 l.h.s.c, .int .i64 l.h.v] 144)) Z → DoTold 7 w0 K S W S Z) := fun Z hZ => ⟨K, h.below (belJ hb0 hZ), hp, Nat.le_add_right _ _, DFr.below (belJ hb0 hZ)⟩
  have HCo : Hid (hearS S i node l = if (S.cl i).busy = true ∧ l.rd = (S.cl i).rd ∧ node ∉ (S.cl i).cnt then (if (countC (S.cl i) node l.h).cnt.length < (if (S.cl i).tells then S.tell else S.ask) then { S with cl := updC S.cl i (countC (S.cl i) node l.h) } else if (S.cl i).tells = false ∧ ((S.cl i).write = true ∨ S.back = true) then roundS S i (tellC i (countC (S.cl i) node l.h)) else doneS S i (countC (S.cl i) node l.h)) else S) := rfl
  obtain ⟨r, hr, hix⟩ := index_any node (S.cl i).cnt (by omega)
  have HIx : Hid (∀ q : Nat, Calls Tryz.prog 105 #[.slice ra (S.cl i).cnt.length rc, .int .i64 node] ((W.alloc (.cells #[.int .i64 l.c, .int .i64 l.key, .int .i64 l.rd, .bool l.tells, .int .i64 l.h.s.t, .int .i64 l.h.s.c, .int .i64 l.h.v] 144)).drewN q) fun e w' => e = .returned (.int .i64 r) ∧ w' = (W.alloc (.cells #[.int .i64 l.c, .int .i64 l.key, .int .i64 l.rd, .bool l.tells, .int .i64 l.h.s.t, .int .i64 l.h.s.c, .int .i64 l.h.v] 144)).drewN q) := fun q => by
    obtain ⟨a1, cap1, e1, hq⟩ := ints_of_own ((HV.out.below (below_drewN (Below.refl _ _) q)).facts (.cv i) hi)
    rw [ecv] at e1
    cases e1
    exact hix _ _ _ hq
  have c10 := HV.out.cells.2.2.2.2.1
  have hx := (HV.out.facts .C trivial).2.1 i hi
  have x0 := hx.busy
  have x6 := hx.rd
  have x10 := hx.cv
  rw [ecv] at x10
  obtain ⟨l2, l4, l5, l6⟩ := HLb.out _ hG0
  generalize hearS S i node l = Pend at HCo ⊢
  clear h hp hb0 hG0 hix hx
  by_cases gb : ¬ (S.cl i).busy = true
  · have HE : Hid (Pend = S) := by show _ = _; rw [HCo.out, if_neg (fun h => gb h.1)]
    rw [show (S.cl i).busy = false by simpa using gb] at x0
    clear gb hr
    clear HCo
    generalize S.cl i = x at *
    go_enter Tryz.func71, Tryz.ntmps71
    go_upto_region 2 with fail
    go_quiet ((go_at_call 105; exact Calls.quiet_of_same (HIx.out _)))
    go_wp2
    exact bodyPost_ret (results_none rfl _ _ _) rfl ⟨rfl, by rw [HE.out]; exact HKp.out _ (below_drewN (Below.refl _ _) _)⟩
  replace gb : (S.cl i).busy = true := Classical.not_not.1 gb
  rw [gb] at x0
  by_cases gr : ¬ l.rd = (S.cl i).rd
  · have HE : Hid (Pend = S) := by show _ = _; rw [HCo.out, if_neg (fun h => gr h.2.1)]
    have g1 : (l.rd != (S.cl i).rd) = true := by simp [gr]
    clear gb gr hr
    clear HCo
    generalize S.cl i = x at *
    go_enter Tryz.func71, Tryz.ntmps71
    go_upto_region 2 with fail
    go_quiet ((go_at_call 105; exact Calls.quiet_of_same (HIx.out _)))
    go_wp2
    exact bodyPost_ret (results_none rfl _ _ _) rfl ⟨rfl, by rw [HE.out]; exact HKp.out _ (below_drewN (Below.refl _ _) _)⟩
  replace gr : l.rd = (S.cl i).rd := Classical.not_not.1 gr
  have g1 : (l.rd != (S.cl i).rd) = false := by simp [gr]
  by_cases gc : node ∈ (S.cl i).cnt
  · have HE : Hid (Pend = S) := by show _ = _; rw [HCo.out, if_neg (fun h => h.2.2 gc)]
    rw [decide_eq_true gc] at hr
    clear gb gr gc
    clear HCo
    generalize S.cl i = x at *
    go_enter Tryz.func71, Tryz.ntmps71
    go_upto_region 2 with fail
    go_quiet ((go_at_call 105; exact Calls.quiet_of_same (HIx.out _)))
    go_wp2
    exact bodyPost_ret (results_none rfl _ _ _) rfl ⟨rfl, by rw [HE.out]; exact HKp.out _ (below_drewN (Below.refl _ _) _)⟩
  rw [decide_eq_false gc] at hr
  have HCo1 : Hid (Pend = if (countC (S.cl i) node l.h).cnt.length < (if (S.cl i).tells then S.tell else S.ask) then { S with cl := updC S.cl i (countC (S.cl i) node l.h) } else if (S.cl i).tells = false ∧ ((S.cl i).write = true ∨ S.back = true) then roundS S i (tellC i (countC (S.cl i) node l.h)) else doneS S i (countC (S.cl i) node l.h)) := by show _ = _; rw [HCo.out, if_pos ⟨gb, gr, gc⟩]
  clear HCo gb gr gc HKp
  go_enter Tryz.func71, Tryz.ntmps71
  go_upto_region 2 with fail
  go_quiet ((go_at_call 105; exact Calls.quiet_of_same (HIx.out _)))
  go_upto_region 3 with fail
  generalize hV3 : (W.alloc (.cells #[.int .i64 l.c, .int .i64 l.key, .int .i64 l.rd, .bool l.tells, .int .i64 l.h.s.t, .int .i64 l.h.s.c, .int .i64 l.h.v] 144)).drewN _ = V3
  have hB3 : Below (W.alloc (.cells #[.int .i64 l.c, .int .i64 l.key, .int .i64 l.rd, .bool l.tells, .int .i64 l.h.s.t, .int .i64 l.h.s.c, .int .i64 l.h.v] 144)).heap.size (W.alloc (.cells #[.int .i64 l.c, .int .i64 l.key, .int .i64 l.rd, .bool l.tells, .int .i64 l.h.s.t, .int .i64 l.h.s.c, .int .i64 l.h.v] 144)) V3 := by rw [← hV3]; exact below_drewN (Below.refl _ _) _
  have HP3 := hideIt (HV.out.below hB3)
  have HF3 := hideIt ((DFr.below (K := K) (k := S.k) HB0.out).trans (DFr.below hB3))
  have HG3 := hideIt ((hB3.block _ (lt_of_heap HG0.out)).trans HG0.out)
  clear hV3 hB3 x0 x6 x10 c10 l2 l4 l5 l6 hr g1 HIx HV HB0 HG0
  have hb4 : Below V3.heap.size V3 (V3.alloc (.cells #[.int .i64 node] 3)) := belA (Below.refl _ _) _
  have hnew := heap_alloc_new V3 (.cells #[.int .i64 node] 3)
  have hP4 := HP3.out.below hb4
  obtain ⟨v6, w6, hr6, ho, hg, hob⟩ := run_appI (x := node) (hP4.facts (.cv i) hi) hnew hP4.bel.size (by omega) 69
  obtain ⟨hPA, hFA⟩ := hP4.pushC hi ho hg hob
  have HGA : Hid ((w6.setCell ⟨K.C, i * 11 + 10, none⟩ v6).heap[W.heap.size]? = some (.cells #[.int .i64 l.c, .int .i64 l.key, .int .i64 l.rd, .bool l.tells, .int .i64 l.h.s.t, .int .i64 l.h.s.c, .int .i64 l.h.v] 144)) := by
    have h4 : (V3.alloc (.cells #[.int .i64 node] 3)).heap[W.heap.size]? = some (.cells #[.int .i64 l.c, .int .i64 l.key, .int .i64 l.rd, .bool l.tells, .int .i64 l.h.s.t, .int .i64 l.h.s.c, .int .i64 l.h.v] 144) := (hb4.block _ (lt_of_heap HG3.out)).trans HG3.out
    refine (rest_row hg W.heap.size (lt_of_heap h4) (fun e => ?_) fun e => ?_).trans h4
    · have := (hP4.facts .C trivial).1
      obtain ⟨cur, hcur⟩ := this
      have e' : W.heap.size = K.C := e
      rw [e', hcur] at h4
      injection h4 with h4
      injection h4 with _ h4
      exact absurd h4 (by decide)
    · have h1 := hP4.tag (p := .cv i) hi e
      rw [h4] at h1
      exact absurd (show (145 : Nat) = 4 from h1) (by decide)
  have c4 : (V3.alloc (.cells #[.int .i64 node] 3)).cell? ⟨K.C, i * 11 + 10, none⟩ = some (.slice ra (S.cl i).cnt.length rc) := by
    have := ((hP4.facts .C trivial).2.1 i hi).cv
    rw [ecv] at this
    exact this
  have c3 : V3.cell? ⟨K.C, i * 11 + 10, none⟩ = some (.slice ra (S.cl i).cnt.length rc) := by
    have := ((HP3.out.facts .C trivial).2.1 i hi).cv
    rw [ecv] at this
    exact this
  have eC : w6.heap[K.C]? = (V3.alloc (.cells #[.int .i64 node] 3)).heap[K.C]? := hg.block K.C hP4.ltC fun e' => hP4.apart (p := .cv i) (q := .C) hi trivial (fun e => by cases e) (b := K.C) e'.symm rfl
  have k6 : w6.cell? ⟨K.C, i * 11 + 10, none⟩ = some (.slice ra (S.cl i).cnt.length rc) := (World.cell?_of_block (a := ⟨K.C, i * 11 + 10, none⟩) eC).trans c4
  have f6 : w6.frozen? ⟨K.C, i * 11 + 10, none⟩ = false := (World.frozen?_of_block (a := ⟨K.C, i * 11 + 10, none⟩) eC).trans (hP4.fzC _)
  rw [ecv] at hr6
  obtain ⟨a6, c6, e6⟩ := ownsRow_slice ho
  obtain ⟨n6, hn6⟩ : ∃ n6, ((S.cl i).cnt ++ [node]).length = n6 := ⟨_, rfl⟩
  rw [hn6] at e6
  have Hn6 := hideIt hn6
  subst e6
  have HA : Hid (HSt w0 K S W i (w6.setCell ⟨K.C, i * 11 + 10, none⟩ (.slice a6 n6 c6)) { S.cl i with cnt := (S.cl i).cnt ++ [node] } a6 n6 c6) := ⟨⟨_, ⟨hPA, rfl, rfl, rfl, rfl, rfl⟩, HF3.out.trans ((DFr.below hb4).trans hFA), by show updP K.cv i _ i = _; rw [updP_same]⟩⟩
  clear hb4 hnew hP4 ho hg hob hPA hFA eC c4 hn6
  go_upto_region 4 with (at_builtin; refine wpList_append_run _ rfl _ _ 69 rfl _ _ _ w6 rfl rfl hr6 ?_)
  clear c3 k6 f6 hr6
  generalize w6.setCell ⟨K.C, i * 11 + 10, none⟩ (.slice a6 n6 c6) = V7 at *
  cases htx : (S.cl i).tells
  · have Htx := hideIt htx
    clear htx
    obtain ⟨l2, l4, l5, l6⟩ := HLb.out _ HGA.out
    obtain ⟨hdx, hfz, hcb, ⟨s0, s2, s3, s4⟩, hnBC⟩ := HA.out.at hi
    have t3 : V7.cell? ⟨K.C, i * 11 + 3, none⟩ = some (.bool false) := hdx.tells.trans (by show some (Value.bool (S.cl i).tells) = _; rw [Htx.out])
    have t7 : V7.cell? ⟨K.C, i * 11 + 7, none⟩ = some (.int .i64 (S.cl i).kept.s.t) := hdx.kept.1
    have t8 : V7.cell? ⟨K.C, i * 11 + 8, none⟩ = some (.int .i64 (S.cl i).kept.s.c) := hdx.kept.2.1
    have HLs := hideIt (fun Z => less_any (S.cl i).kept.s l.h.s Z)
    have HCo2 : Hid (Pend = if (countC (S.cl i) node l.h).cnt.length < S.ask then { S with cl := updC S.cl i (countC (S.cl i) node l.h) } else if (S.cl i).tells = false ∧ ((S.cl i).write = true ∨ S.back = true) then roundS S i (tellC i (countC (S.cl i) node l.h)) else doneS S i (countC (S.cl i) node l.h)) := by
      show _ = _
      rw [HCo1.out, Htx.out]
      rfl
    clear hdx hfz hcb s0 s3 s4 HCo1 HG3 HF3 HP3
    go_upto_region 7 with fail
    go_region_with (go_at_call 69; refine (HLs.out _).mono ?_; rintro e V8 ⟨rfl, hb8⟩)
    all_goals
      have hb7 : Below V7.heap.size V7 V8 := belJ (Below.refl _ V7).drew hb8
      have HA8 := hideIt (HA.out.below hb7)
      have hG8 := (hb7.block _ (lt_of_heap HGA.out)).trans HGA.out
      clear l2 l4 l5 l6 t3 t7 t8 s2 hb7 hb8 HA HGA HLs
      cases hl9 : decide ((S.cl i).kept.s.lt l.h.s)
      · have hyy : countC (S.cl i) node l.h = { S.cl i with cnt := (S.cl i).cnt ++ [node] } := by
          unfold countC
          rw [if_neg (fun h => of_decide_eq_false hl9 h.2)]
        have HC : Hid (HSt w0 K S W i V8 (countC (S.cl i) node l.h) a6 n6 c6) := by rw [hyy]; exact HA8.out
        clear hyy HLb hl9 hG8 HA8
        generalize V8 = V9 at *
        generalize hy : countC (S.cl i) node l.h = y at *
        have Hyn : Hid (y.cnt.length = n6) := by rw [← hy]; show ((S.cl i).cnt ++ [node]).length = n6; rw [← Hn6.out]
        have Hyr : Hid (0 ≤ y.rd ∧ y.rd ≤ 100000) := by rw [← hy]; exact hrd
        have Hyw : Hid (y.write = (S.cl i).write) := by rw [← hy]; rfl
        have Htl : Hid (y.tells = false) := by rw [← hy]; exact Htx.out
        have Hyt : Hid (-1 ≤ y.kept.s.t ∧ y.kept.s.t ≤ 100000) := by
          rw [← hy]
          show Hid (-1 ≤ (if (S.cl i).tells = false ∧ (S.cl i).kept.s.lt l.h.s then l.h else (S.cl i).kept).s.t ∧ (if (S.cl i).tells = false ∧ (S.cl i).kept.s.lt l.h.s then l.h else (S.cl i).kept).s.t ≤ 100000)
          split
          · exact hlh
          · exact hkt
        clear hy

        obtain ⟨hdx, hfz, hcb, ⟨s0, s2, s3, s4⟩, hnBC⟩ := HC.out.at hi
        have hnCB : ¬ K.C = K.B := fun e => hnBC e.symm
        have t0 := hdx.busy
        have t2 := hdx.write
        have t3 := hdx.tells
        have t5 := hdx.value
        have t7 := hdx.kept.1
        have t8 : V9.cell? ⟨K.C, i * 11 + 8, none⟩ = _ := hdx.kept.2.1
        have t9 : V9.cell? ⟨K.C, i * 11 + 9, none⟩ = _ := hdx.kept.2.2
        have t10 := hdx.cv
        have f0 := hfz (i * 11)
        have f3 := hfz (i * 11 + 3)
        have f7 := hfz (i * 11 + 7)
        have f8 := hfz (i * 11 + 8)
        have f9 := hfz (i * 11 + 9)
        rw [Htl.out] at t3
        by_cases hq : n6 < S.ask
        · have hqd : decide ((n6 : Int) < (S.ask : Int)) = true := decide_eq_true (by omega)
          have HE : Hid (Pend = { S with cl := updC S.cl i y }) := by
            show _ = _
            rw [HCo2.out, if_pos (by have := Hyn.out; omega)]
          clear hdx hfz hcb HCo2
          go_wp2
          exact bodyPost_ret (results_none rfl _ _ _) rfl ⟨rfl, by rw [HE.out]; exact HC.out.told HPl.out 7⟩
        have hqd : decide ((n6 : Int) < (S.ask : Int)) = false := decide_eq_false (by omega)
        have HCo4 : Hid (Pend = if (S.cl i).tells = false ∧ ((S.cl i).write = true ∨ S.back = true) then roundS S i (tellC i y) else doneS S i y) := by
          show _ = _
          rw [HCo2.out, if_neg (by have := Hyn.out; omega)]
        cases hw : y.write
        · have Hwr := hideIt hw
          rw [hw] at t2
          cases hbk : S.back
          · have HCo3 : Hid (Pend = doneS S i y) := by show _ = _; rw [HCo4.out, if_neg (fun h => by rcases h.2 with h | h; rw [← Hyw.out, hw] at h; cases h; rw [hbk] at h; cases h)]
            rw [hbk] at s4
            clear hw hbk HCo4
            have HDn := hideIt (HC.out.done HPl.out hi hs y.kept.v)
            have HEd : Hid (Pend = { S with seen := S.seen ++ [snOf i y 2 y.kept.v y.kept.s], cl := updC S.cl i { y with busy := false } }) := by
              show _ = _
              rw [HCo3.out]
              unfold doneS
              rw [Hwr.out]
              rfl
            clear hfz hcb hdx HCo3 HCo2
            go_wp2_with fail
            refine HDn.out.mono ?_
            rintro e W5 ⟨rfl, u0, uf, hT⟩
            have HT := hideIt hT
            clear hT HDn t0 t2 t3 t5 t7 t8 t9 t10 f0 f3 f7 f8 f9 s0 s2 s3 s4
            go_wp2
            go_end0
            exact ⟨rfl, by rw [HEd.out]; exact HT.out⟩
          · have HCo3 : Hid (Pend = roundS S i (tellC i y)) := by show _ = _; rw [HCo4.out, if_pos ⟨Htx.out, .inr hbk⟩]
            rw [hbk] at s4
            clear hw hbk HCo4
            have hO : OnlyC V9 ((V9).setCell ⟨K.C, i * 11 + 3, none⟩ (.bool true)) K.C (i * 11) 11 107 := ((OnlyC.refl hcb)).set (by omega) _
            have hC : DcAt ((V9).setCell ⟨K.C, i * 11 + 3, none⟩ (.bool true)) K.C (i * 11) { y with tells := true } (.slice a6 n6 c6) := by
              refine ⟨?_, ?_, ?_, ?_, ?_, ?_, ?_, ⟨?_, ?_, ?_⟩, ?_⟩
              · rw [World.cell?_setCell_other _ _ _ _ (offNe (by omega))]
                exact hdx.busy
              · rw [World.cell?_setCell_other _ _ _ _ (offNe (by omega))]
                exact hdx.gone
              · rw [World.cell?_setCell_other _ _ _ _ (offNe (by omega))]
                exact hdx.write
              · exact World.cell?_setCell_same' _ _ _ (by rw [hdx.tells]; rfl)
              · rw [World.cell?_setCell_other _ _ _ _ (offNe (by omega))]
                exact hdx.key
              · rw [World.cell?_setCell_other _ _ _ _ (offNe (by omega))]
                exact hdx.value
              · rw [World.cell?_setCell_other _ _ _ _ (offNe (by omega))]
                exact hdx.rd
              · rw [World.cell?_setCell_other _ _ _ _ (offNe (by omega))]
                exact hdx.kept.1
              · rw [World.cell?_setCell_other _ _ _ _ (offNe (by omega))]
                exact hdx.kept.2.1
              · rw [World.cell?_setCell_other _ _ _ _ (offNe (by omega))]
                exact hdx.kept.2.2
              · rw [World.cell?_setCell_other _ _ _ _ (offNe (by omega))]
                exact hdx.cv
            have HD2 := hideIt (HC.out.set hi hO hC rfl)
            have HRn := hideIt (HD2.out.round HPl.out hi hn7 hk8 (by exact Hyr.out) h5 hlt)
            have HEr : Hid (Pend = roundS S i { y with tells := true }) := by
              show _ = _
              rw [HCo3.out]
              unfold tellC
              rw [Hwr.out]
              rfl
            clear hO hC hdx hfz hcb HCo3 HCo2
            go_wp2_with fail
            refine HRn.out.mono ?_
            rintro e W5 ⟨rfl, hT⟩
            have HT := hideIt hT
            clear hT HRn t0 t2 t3 t5 t7 t8 t9 t10 f0 f3 f7 f8 f9 s0 s2 s3 s4
            go_wp2
            exact bodyPost_ret (results_none rfl _ _ _) rfl ⟨rfl, by rw [HEr.out]; exact HT.out⟩
        · have Hwr := hideIt hw
          rw [hw] at t2
          have HCo3 : Hid (Pend = roundS S i (tellC i y)) := by show _ = _; rw [HCo4.out, if_pos ⟨Htx.out, .inl (by rw [← Hyw.out]; exact hw)⟩]
          clear hw HCo4
          have hwt : IntKind.i64.wrap (y.kept.s.t + 1) = y.kept.s.t + 1 := IntWalk.i64_in _ (by have := Hyt.out; omega)
          have hO : OnlyC V9 ((((V9).setCell ⟨K.C, i * 11 + 7, none⟩ (.int .i64 (y.kept.s.t + 1))).setCell ⟨K.C, i * 11 + 8, none⟩ (.int .i64 (i : Int))).setCell ⟨K.C, i * 11 + 9, none⟩ (.int .i64 y.value)) K.C (i * 11) 11 107 := ((((OnlyC.refl hcb)).set (by omega) _).set (by omega) _).set (by omega) _
          have hC : DcAt ((((V9).setCell ⟨K.C, i * 11 + 7, none⟩ (.int .i64 (y.kept.s.t + 1))).setCell ⟨K.C, i * 11 + 8, none⟩ (.int .i64 (i : Int))).setCell ⟨K.C, i * 11 + 9, none⟩ (.int .i64 y.value)) K.C (i * 11) { y with kept := ⟨⟨y.kept.s.t + 1, (i : Int)⟩, y.value⟩ } (.slice a6 n6 c6) := by
            refine ⟨?_, ?_, ?_, ?_, ?_, ?_, ?_, ⟨?_, ?_, ?_⟩, ?_⟩
            · rw [World.cell?_setCell_other _ _ _ _ (offNe (by omega)), World.cell?_setCell_other _ _ _ _ (offNe (by omega)), World.cell?_setCell_other _ _ _ _ (offNe (by omega))]
              exact hdx.busy
            · rw [World.cell?_setCell_other _ _ _ _ (offNe (by omega)), World.cell?_setCell_other _ _ _ _ (offNe (by omega)), World.cell?_setCell_other _ _ _ _ (offNe (by omega))]
              exact hdx.gone
            · rw [World.cell?_setCell_other _ _ _ _ (offNe (by omega)), World.cell?_setCell_other _ _ _ _ (offNe (by omega)), World.cell?_setCell_other _ _ _ _ (offNe (by omega))]
              exact hdx.write
            · rw [World.cell?_setCell_other _ _ _ _ (offNe (by omega)), World.cell?_setCell_other _ _ _ _ (offNe (by omega)), World.cell?_setCell_other _ _ _ _ (offNe (by omega))]
              exact hdx.tells
            · rw [World.cell?_setCell_other _ _ _ _ (offNe (by omega)), World.cell?_setCell_other _ _ _ _ (offNe (by omega)), World.cell?_setCell_other _ _ _ _ (offNe (by omega))]
              exact hdx.key
            · rw [World.cell?_setCell_other _ _ _ _ (offNe (by omega)), World.cell?_setCell_other _ _ _ _ (offNe (by omega)), World.cell?_setCell_other _ _ _ _ (offNe (by omega))]
              exact hdx.value
            · rw [World.cell?_setCell_other _ _ _ _ (offNe (by omega)), World.cell?_setCell_other _ _ _ _ (offNe (by omega)), World.cell?_setCell_other _ _ _ _ (offNe (by omega))]
              exact hdx.rd
            · rw [World.cell?_setCell_other _ _ _ _ (offNe (by omega)), World.cell?_setCell_other _ _ _ _ (offNe (by omega))]
              exact World.cell?_setCell_same' _ _ _ (by rw [hdx.kept.1]; rfl)
            · rw [World.cell?_setCell_other _ _ _ _ (offNe (by omega))]
              exact World.cell?_setCell_same' _ _ _ (by rw [World.cell?_setCell_other _ _ _ _ (offNe (by omega)), hdx.kept.2.1]; rfl)
            · exact World.cell?_setCell_same' _ _ _ (by rw [World.cell?_setCell_other _ _ _ _ (offNe (by omega)), World.cell?_setCell_other _ _ _ _ (offNe (by omega)), hdx.kept.2.2]; rfl)
            · rw [World.cell?_setCell_other _ _ _ _ (offNe (by omega)), World.cell?_setCell_other _ _ _ _ (offNe (by omega)), World.cell?_setCell_other _ _ _ _ (offNe (by omega))]
              exact hdx.cv
          have HD : Hid (HSt w0 K S W i ((((V9).setCell ⟨K.C, i * 11 + 7, none⟩ (.int .i64 (y.kept.s.t + 1))).setCell ⟨K.C, i * 11 + 8, none⟩ (.int .i64 (i : Int))).setCell ⟨K.C, i * 11 + 9, none⟩ (.int .i64 y.value)).drew { y with kept := ⟨⟨y.kept.s.t + 1, (i : Int)⟩, y.value⟩ } a6 n6 c6) := (HC.out.set hi hO hC rfl).below (Below.refl _ _).drew
          have HEr : Hid (Pend = roundS S i { ({ y with kept := ⟨⟨y.kept.s.t + 1, (i : Int)⟩, y.value⟩ } : Cl) with tells := true }) := by
            show _ = _
            rw [HCo3.out]
            unfold tellC
            rw [Hwr.out]
            rfl
          have Hrd2 : Hid (0 ≤ y.rd ∧ y.rd ≤ 100000) := Hyr
          clear hO hC hdx hfz hcb HCo3 HCo2 HC
          go_upto_region 11 with fail
          go_region
          clear t0 t2 t3 t5 t7 t8 t9 t10 f0 f3 f7 f8 f9 s0 s2 s3 s4
          generalize ((((V9).setCell ⟨K.C, i * 11 + 7, none⟩ (.int .i64 (y.kept.s.t + 1))).setCell ⟨K.C, i * 11 + 8, none⟩ (.int .i64 (i : Int))).setCell ⟨K.C, i * 11 + 9, none⟩ (.int .i64 y.value)).drew = V10 at *
          generalize hy2 : ({ y with kept := ⟨⟨y.kept.s.t + 1, (i : Int)⟩, y.value⟩ } : Cl) = y2 at *
          have Hr2 : Hid (0 ≤ y2.rd ∧ y2.rd ≤ 100000) := by rw [← hy2]; exact Hrd2.out
          have Ht2 : Hid (y2.tells = false) := by rw [← hy2]; exact Htl.out
          have Hw2 : Hid (y2.write = true) := by rw [← hy2]; exact Hwr.out
          clear hy2
          obtain ⟨hd2, hfz2, hcb2, ⟨s0, s2, s3, s4⟩, _⟩ := HD.out.at hi
          have t2 := hd2.write
          have t3 := hd2.tells
          rw [Ht2.out] at t3
          rw [Hw2.out] at t2
          have f3 := hfz2 (i * 11 + 3)
          have hO : OnlyC V10 ((V10).setCell ⟨K.C, i * 11 + 3, none⟩ (.bool true)) K.C (i * 11) 11 107 := ((OnlyC.refl hcb2)).set (by omega) _
          have hC : DcAt ((V10).setCell ⟨K.C, i * 11 + 3, none⟩ (.bool true)) K.C (i * 11) { y2 with tells := true } (.slice a6 n6 c6) := by
            refine ⟨?_, ?_, ?_, ?_, ?_, ?_, ?_, ⟨?_, ?_, ?_⟩, ?_⟩
            · rw [World.cell?_setCell_other _ _ _ _ (offNe (by omega))]
              exact hd2.busy
            · rw [World.cell?_setCell_other _ _ _ _ (offNe (by omega))]
              exact hd2.gone
            · rw [World.cell?_setCell_other _ _ _ _ (offNe (by omega))]
              exact hd2.write
            · exact World.cell?_setCell_same' _ _ _ (by rw [hd2.tells]; rfl)
            · rw [World.cell?_setCell_other _ _ _ _ (offNe (by omega))]
              exact hd2.key
            · rw [World.cell?_setCell_other _ _ _ _ (offNe (by omega))]
              exact hd2.value
            · rw [World.cell?_setCell_other _ _ _ _ (offNe (by omega))]
              exact hd2.rd
            · rw [World.cell?_setCell_other _ _ _ _ (offNe (by omega))]
              exact hd2.kept.1
            · rw [World.cell?_setCell_other _ _ _ _ (offNe (by omega))]
              exact hd2.kept.2.1
            · rw [World.cell?_setCell_other _ _ _ _ (offNe (by omega))]
              exact hd2.kept.2.2
            · rw [World.cell?_setCell_other _ _ _ _ (offNe (by omega))]
              exact hd2.cv
          have HD2 := hideIt (HD.out.set hi hO hC rfl)
          have HRn := hideIt (HD2.out.round HPl.out hi hn7 hk8 (by exact Hr2.out) h5 hlt)
          clear hO hC hd2 hfz2 hcb2
          go_wp2_with fail
          refine HRn.out.mono ?_
          rintro e W5 ⟨rfl, hT⟩
          have HT := hideIt hT
          clear hT HRn t2 t3 f3 s0 s2 s3 s4
          go_wp2
          exact bodyPost_ret (results_none rfl _ _ _) rfl ⟨rfl, by rw [HEr.out]; exact HT.out⟩
      · have hyy : countC (S.cl i) node l.h = { S.cl i with kept := l.h, cnt := (S.cl i).cnt ++ [node] } := by
          unfold countC
          rw [if_pos ⟨Htx.out, of_decide_eq_true hl9⟩]
        obtain ⟨l2, l4, l5, l6⟩ := HLb.out _ hG8
        obtain ⟨hdx, hfz, hcb, _, _⟩ := HA8.out.at hi
        have t7 : V8.cell? ⟨K.C, i * 11 + 7, none⟩ = some (.int .i64 (S.cl i).kept.s.t) := hdx.kept.1
        have t8 : V8.cell? ⟨K.C, i * 11 + 8, none⟩ = some (.int .i64 (S.cl i).kept.s.c) := hdx.kept.2.1
        have t9 : V8.cell? ⟨K.C, i * 11 + 9, none⟩ = some (.int .i64 (S.cl i).kept.v) := hdx.kept.2.2
        have f7 := hfz (i * 11 + 7)
        have f8 := hfz (i * 11 + 8)
        have f9 := hfz (i * 11 + 9)
        have hO : OnlyC V8 ((((V8).setCell ⟨K.C, i * 11 + 7, none⟩ (.int .i64 l.h.s.t)).setCell ⟨K.C, i * 11 + 8, none⟩ (.int .i64 l.h.s.c)).setCell ⟨K.C, i * 11 + 9, none⟩ (.int .i64 l.h.v)) K.C (i * 11) 11 107 := ((((OnlyC.refl hcb)).set (by omega) _).set (by omega) _).set (by omega) _
        have hC : DcAt ((((V8).setCell ⟨K.C, i * 11 + 7, none⟩ (.int .i64 l.h.s.t)).setCell ⟨K.C, i * 11 + 8, none⟩ (.int .i64 l.h.s.c)).setCell ⟨K.C, i * 11 + 9, none⟩ (.int .i64 l.h.v)) K.C (i * 11) { S.cl i with kept := l.h, cnt := (S.cl i).cnt ++ [node] } (.slice a6 n6 c6) := by
          refine ⟨?_, ?_, ?_, ?_, ?_, ?_, ?_, ⟨?_, ?_, ?_⟩, ?_⟩
          · rw [World.cell?_setCell_other _ _ _ _ (offNe (by omega)), World.cell?_setCell_other _ _ _ _ (offNe (by omega)), World.cell?_setCell_other _ _ _ _ (offNe (by omega))]
            exact hdx.busy
          · rw [World.cell?_setCell_other _ _ _ _ (offNe (by omega)), World.cell?_setCell_other _ _ _ _ (offNe (by omega)), World.cell?_setCell_other _ _ _ _ (offNe (by omega))]
            exact hdx.gone
          · rw [World.cell?_setCell_other _ _ _ _ (offNe (by omega)), World.cell?_setCell_other _ _ _ _ (offNe (by omega)), World.cell?_setCell_other _ _ _ _ (offNe (by omega))]
            exact hdx.write
          · rw [World.cell?_setCell_other _ _ _ _ (offNe (by omega)), World.cell?_setCell_other _ _ _ _ (offNe (by omega)), World.cell?_setCell_other _ _ _ _ (offNe (by omega))]
            exact hdx.tells
          · rw [World.cell?_setCell_other _ _ _ _ (offNe (by omega)), World.cell?_setCell_other _ _ _ _ (offNe (by omega)), World.cell?_setCell_other _ _ _ _ (offNe (by omega))]
            exact hdx.key
          · rw [World.cell?_setCell_other _ _ _ _ (offNe (by omega)), World.cell?_setCell_other _ _ _ _ (offNe (by omega)), World.cell?_setCell_other _ _ _ _ (offNe (by omega))]
            exact hdx.value
          · rw [World.cell?_setCell_other _ _ _ _ (offNe (by omega)), World.cell?_setCell_other _ _ _ _ (offNe (by omega)), World.cell?_setCell_other _ _ _ _ (offNe (by omega))]
            exact hdx.rd
          · rw [World.cell?_setCell_other _ _ _ _ (offNe (by omega)), World.cell?_setCell_other _ _ _ _ (offNe (by omega))]
            exact World.cell?_setCell_same' _ _ _ (by rw [hdx.kept.1]; rfl)
          · rw [World.cell?_setCell_other _ _ _ _ (offNe (by omega))]
            exact World.cell?_setCell_same' _ _ _ (by rw [World.cell?_setCell_other _ _ _ _ (offNe (by omega)), hdx.kept.2.1]; rfl)
          · exact World.cell?_setCell_same' _ _ _ (by rw [World.cell?_setCell_other _ _ _ _ (offNe (by omega)), World.cell?_setCell_other _ _ _ _ (offNe (by omega)), hdx.kept.2.2]; rfl)
          · rw [World.cell?_setCell_other _ _ _ _ (offNe (by omega)), World.cell?_setCell_other _ _ _ _ (offNe (by omega)), World.cell?_setCell_other _ _ _ _ (offNe (by omega))]
            exact hdx.cv

        have HC : Hid (HSt w0 K S W i ((((V8).setCell ⟨K.C, i * 11 + 7, none⟩ (.int .i64 l.h.s.t)).setCell ⟨K.C, i * 11 + 8, none⟩ (.int .i64 l.h.s.c)).setCell ⟨K.C, i * 11 + 9, none⟩ (.int .i64 l.h.v)) (countC (S.cl i) node l.h) a6 n6 c6) := by rw [hyy]; exact HA8.out.set hi hO hC rfl
        clear hyy HLb hl9 hG8 HA8 hO hC hdx hfz hcb
        go_upto_region 9 with fail
        clear l2 l4 l5 l6 t7 t8 t9 f7 f8 f9
        generalize (((V8).setCell ⟨K.C, i * 11 + 7, none⟩ (.int .i64 l.h.s.t)).setCell ⟨K.C, i * 11 + 8, none⟩ (.int .i64 l.h.s.c)).setCell ⟨K.C, i * 11 + 9, none⟩ (.int .i64 l.h.v) = V9 at *
        generalize hy : countC (S.cl i) node l.h = y at *
        have Hyn : Hid (y.cnt.length = n6) := by rw [← hy]; show ((S.cl i).cnt ++ [node]).length = n6; rw [← Hn6.out]
        have Hyr : Hid (0 ≤ y.rd ∧ y.rd ≤ 100000) := by rw [← hy]; exact hrd
        have Hyw : Hid (y.write = (S.cl i).write) := by rw [← hy]; rfl
        have Htl : Hid (y.tells = false) := by rw [← hy]; exact Htx.out
        have Hyt : Hid (-1 ≤ y.kept.s.t ∧ y.kept.s.t ≤ 100000) := by
          rw [← hy]
          show Hid (-1 ≤ (if (S.cl i).tells = false ∧ (S.cl i).kept.s.lt l.h.s then l.h else (S.cl i).kept).s.t ∧ (if (S.cl i).tells = false ∧ (S.cl i).kept.s.lt l.h.s then l.h else (S.cl i).kept).s.t ≤ 100000)
          split
          · exact hlh
          · exact hkt
        clear hy

        obtain ⟨hdx, hfz, hcb, ⟨s0, s2, s3, s4⟩, hnBC⟩ := HC.out.at hi
        have hnCB : ¬ K.C = K.B := fun e => hnBC e.symm
        have t0 := hdx.busy
        have t2 := hdx.write
        have t3 := hdx.tells
        have t5 := hdx.value
        have t7 := hdx.kept.1
        have t8 : V9.cell? ⟨K.C, i * 11 + 8, none⟩ = _ := hdx.kept.2.1
        have t9 : V9.cell? ⟨K.C, i * 11 + 9, none⟩ = _ := hdx.kept.2.2
        have t10 := hdx.cv
        have f0 := hfz (i * 11)
        have f3 := hfz (i * 11 + 3)
        have f7 := hfz (i * 11 + 7)
        have f8 := hfz (i * 11 + 8)
        have f9 := hfz (i * 11 + 9)
        rw [Htl.out] at t3
        by_cases hq : n6 < S.ask
        · have hqd : decide ((n6 : Int) < (S.ask : Int)) = true := decide_eq_true (by omega)
          have HE : Hid (Pend = { S with cl := updC S.cl i y }) := by
            show _ = _
            rw [HCo2.out, if_pos (by have := Hyn.out; omega)]
          clear hdx hfz hcb HCo2
          go_wp2
          exact bodyPost_ret (results_none rfl _ _ _) rfl ⟨rfl, by rw [HE.out]; exact HC.out.told HPl.out 7⟩
        have hqd : decide ((n6 : Int) < (S.ask : Int)) = false := decide_eq_false (by omega)
        have HCo4 : Hid (Pend = if (S.cl i).tells = false ∧ ((S.cl i).write = true ∨ S.back = true) then roundS S i (tellC i y) else doneS S i y) := by
          show _ = _
          rw [HCo2.out, if_neg (by have := Hyn.out; omega)]
        cases hw : y.write
        · have Hwr := hideIt hw
          rw [hw] at t2
          cases hbk : S.back
          · have HCo3 : Hid (Pend = doneS S i y) := by show _ = _; rw [HCo4.out, if_neg (fun h => by rcases h.2 with h | h; rw [← Hyw.out, hw] at h; cases h; rw [hbk] at h; cases h)]
            rw [hbk] at s4
            clear hw hbk HCo4
            have HDn := hideIt (HC.out.done HPl.out hi hs y.kept.v)
            have HEd : Hid (Pend = { S with seen := S.seen ++ [snOf i y 2 y.kept.v y.kept.s], cl := updC S.cl i { y with busy := false } }) := by
              show _ = _
              rw [HCo3.out]
              unfold doneS
              rw [Hwr.out]
              rfl
            clear hfz hcb hdx HCo3 HCo2
            go_wp2_with fail
            refine HDn.out.mono ?_
            rintro e W5 ⟨rfl, u0, uf, hT⟩
            have HT := hideIt hT
            clear hT HDn t0 t2 t3 t5 t7 t8 t9 t10 f0 f3 f7 f8 f9 s0 s2 s3 s4
            go_wp2
            go_end0
            exact ⟨rfl, by rw [HEd.out]; exact HT.out⟩
          · have HCo3 : Hid (Pend = roundS S i (tellC i y)) := by show _ = _; rw [HCo4.out, if_pos ⟨Htx.out, .inr hbk⟩]
            rw [hbk] at s4
            clear hw hbk HCo4
            have hO : OnlyC V9 ((V9).setCell ⟨K.C, i * 11 + 3, none⟩ (.bool true)) K.C (i * 11) 11 107 := ((OnlyC.refl hcb)).set (by omega) _
            have hC : DcAt ((V9).setCell ⟨K.C, i * 11 + 3, none⟩ (.bool true)) K.C (i * 11) { y with tells := true } (.slice a6 n6 c6) := by
              refine ⟨?_, ?_, ?_, ?_, ?_, ?_, ?_, ⟨?_, ?_, ?_⟩, ?_⟩
              · rw [World.cell?_setCell_other _ _ _ _ (offNe (by omega))]
                exact hdx.busy
              · rw [World.cell?_setCell_other _ _ _ _ (offNe (by omega))]
                exact hdx.gone
              · rw [World.cell?_setCell_other _ _ _ _ (offNe (by omega))]
                exact hdx.write
              · exact World.cell?_setCell_same' _ _ _ (by rw [hdx.tells]; rfl)
              · rw [World.cell?_setCell_other _ _ _ _ (offNe (by omega))]
                exact hdx.key
              · rw [World.cell?_setCell_other _ _ _ _ (offNe (by omega))]
                exact hdx.value
              · rw [World.cell?_setCell_other _ _ _ _ (offNe (by omega))]
                exact hdx.rd
              · rw [World.cell?_setCell_other _ _ _ _ (offNe (by omega))]
                exact hdx.kept.1
              · rw [World.cell?_setCell_other _ _ _ _ (offNe (by omega))]
                exact hdx.kept.2.1
              · rw [World.cell?_setCell_other _ _ _ _ (offNe (by omega))]
                exact hdx.kept.2.2
              · rw [World.cell?_setCell_other _ _ _ _ (offNe (by omega))]
                exact hdx.cv
            have HD2 := hideIt (HC.out.set hi hO hC rfl)
            have HRn := hideIt (HD2.out.round HPl.out hi hn7 hk8 (by exact Hyr.out) h5 hlt)
            have HEr : Hid (Pend = roundS S i { y with tells := true }) := by
              show _ = _
              rw [HCo3.out]
              unfold tellC
              rw [Hwr.out]
              rfl
            clear hO hC hdx hfz hcb HCo3 HCo2
            go_wp2_with fail
            refine HRn.out.mono ?_
            rintro e W5 ⟨rfl, hT⟩
            have HT := hideIt hT
            clear hT HRn t0 t2 t3 t5 t7 t8 t9 t10 f0 f3 f7 f8 f9 s0 s2 s3 s4
            go_wp2
            exact bodyPost_ret (results_none rfl _ _ _) rfl ⟨rfl, by rw [HEr.out]; exact HT.out⟩
        · have Hwr := hideIt hw
          rw [hw] at t2
          have HCo3 : Hid (Pend = roundS S i (tellC i y)) := by show _ = _; rw [HCo4.out, if_pos ⟨Htx.out, .inl (by rw [← Hyw.out]; exact hw)⟩]
          clear hw HCo4
          have hwt : IntKind.i64.wrap (y.kept.s.t + 1) = y.kept.s.t + 1 := IntWalk.i64_in _ (by have := Hyt.out; omega)
          have hO : OnlyC V9 ((((V9).setCell ⟨K.C, i * 11 + 7, none⟩ (.int .i64 (y.kept.s.t + 1))).setCell ⟨K.C, i * 11 + 8, none⟩ (.int .i64 (i : Int))).setCell ⟨K.C, i * 11 + 9, none⟩ (.int .i64 y.value)) K.C (i * 11) 11 107 := ((((OnlyC.refl hcb)).set (by omega) _).set (by omega) _).set (by omega) _
          have hC : DcAt ((((V9).setCell ⟨K.C, i * 11 + 7, none⟩ (.int .i64 (y.kept.s.t + 1))).setCell ⟨K.C, i * 11 + 8, none⟩ (.int .i64 (i : Int))).setCell ⟨K.C, i * 11 + 9, none⟩ (.int .i64 y.value)) K.C (i * 11) { y with kept := ⟨⟨y.kept.s.t + 1, (i : Int)⟩, y.value⟩ } (.slice a6 n6 c6) := by
            refine ⟨?_, ?_, ?_, ?_, ?_, ?_, ?_, ⟨?_, ?_, ?_⟩, ?_⟩
            · rw [World.cell?_setCell_other _ _ _ _ (offNe (by omega)), World.cell?_setCell_other _ _ _ _ (offNe (by omega)), World.cell?_setCell_other _ _ _ _ (offNe (by omega))]
              exact hdx.busy
            · rw [World.cell?_setCell_other _ _ _ _ (offNe (by omega)), World.cell?_setCell_other _ _ _ _ (offNe (by omega)), World.cell?_setCell_other _ _ _ _ (offNe (by omega))]
              exact hdx.gone
            · rw [World.cell?_setCell_other _ _ _ _ (offNe (by omega)), World.cell?_setCell_other _ _ _ _ (offNe (by omega)), World.cell?_setCell_other _ _ _ _ (offNe (by omega))]
              exact hdx.write
            · rw [World.cell?_setCell_other _ _ _ _ (offNe (by omega)), World.cell?_setCell_other _ _ _ _ (offNe (by omega)), World.cell?_setCell_other _ _ _ _ (offNe (by omega))]
              exact hdx.tells
            · rw [World.cell?_setCell_other _ _ _ _ (offNe (by omega)), World.cell?_setCell_other _ _ _ _ (offNe (by omega)), World.cell?_setCell_other _ _ _ _ (offNe (by omega))]
              exact hdx.key
            · rw [World.cell?_setCell_other _ _ _ _ (offNe (by omega)), World.cell?_setCell_other _ _ _ _ (offNe (by omega)), World.cell?_setCell_other _ _ _ _ (offNe (by omega))]
              exact hdx.value
            · rw [World.cell?_setCell_other _ _ _ _ (offNe (by omega)), World.cell?_setCell_other _ _ _ _ (offNe (by omega)), World.cell?_setCell_other _ _ _ _ (offNe (by omega))]
              exact hdx.rd
            · rw [World.cell?_setCell_other _ _ _ _ (offNe (by omega)), World.cell?_setCell_other _ _ _ _ (offNe (by omega))]
              exact World.cell?_setCell_same' _ _ _ (by rw [hdx.kept.1]; rfl)
            · rw [World.cell?_setCell_other _ _ _ _ (offNe (by omega))]
              exact World.cell?_setCell_same' _ _ _ (by rw [World.cell?_setCell_other _ _ _ _ (offNe (by omega)), hdx.kept.2.1]; rfl)
            · exact World.cell?_setCell_same' _ _ _ (by rw [World.cell?_setCell_other _ _ _ _ (offNe (by omega)), World.cell?_setCell_other _ _ _ _ (offNe (by omega)), hdx.kept.2.2]; rfl)
            · rw [World.cell?_setCell_other _ _ _ _ (offNe (by omega)), World.cell?_setCell_other _ _ _ _ (offNe (by omega)), World.cell?_setCell_other _ _ _ _ (offNe (by omega))]
              exact hdx.cv
          have HD : Hid (HSt w0 K S W i ((((V9).setCell ⟨K.C, i * 11 + 7, none⟩ (.int .i64 (y.kept.s.t + 1))).setCell ⟨K.C, i * 11 + 8, none⟩ (.int .i64 (i : Int))).setCell ⟨K.C, i * 11 + 9, none⟩ (.int .i64 y.value)).drew { y with kept := ⟨⟨y.kept.s.t + 1, (i : Int)⟩, y.value⟩ } a6 n6 c6) := (HC.out.set hi hO hC rfl).below (Below.refl _ _).drew
          have HEr : Hid (Pend = roundS S i { ({ y with kept := ⟨⟨y.kept.s.t + 1, (i : Int)⟩, y.value⟩ } : Cl) with tells := true }) := by
            show _ = _
            rw [HCo3.out]
            unfold tellC
            rw [Hwr.out]
            rfl
          have Hrd2 : Hid (0 ≤ y.rd ∧ y.rd ≤ 100000) := Hyr
          clear hO hC hdx hfz hcb HCo3 HCo2 HC
          go_upto_region 11 with fail
          go_region
          clear t0 t2 t3 t5 t7 t8 t9 t10 f0 f3 f7 f8 f9 s0 s2 s3 s4
          generalize ((((V9).setCell ⟨K.C, i * 11 + 7, none⟩ (.int .i64 (y.kept.s.t + 1))).setCell ⟨K.C, i * 11 + 8, none⟩ (.int .i64 (i : Int))).setCell ⟨K.C, i * 11 + 9, none⟩ (.int .i64 y.value)).drew = V10 at *
          generalize hy2 : ({ y with kept := ⟨⟨y.kept.s.t + 1, (i : Int)⟩, y.value⟩ } : Cl) = y2 at *
          have Hr2 : Hid (0 ≤ y2.rd ∧ y2.rd ≤ 100000) := by rw [← hy2]; exact Hrd2.out
          have Ht2 : Hid (y2.tells = false) := by rw [← hy2]; exact Htl.out
          have Hw2 : Hid (y2.write = true) := by rw [← hy2]; exact Hwr.out
          clear hy2
          obtain ⟨hd2, hfz2, hcb2, ⟨s0, s2, s3, s4⟩, _⟩ := HD.out.at hi
          have t2 := hd2.write
          have t3 := hd2.tells
          rw [Ht2.out] at t3
          rw [Hw2.out] at t2
          have f3 := hfz2 (i * 11 + 3)
          have hO : OnlyC V10 ((V10).setCell ⟨K.C, i * 11 + 3, none⟩ (.bool true)) K.C (i * 11) 11 107 := ((OnlyC.refl hcb2)).set (by omega) _
          have hC : DcAt ((V10).setCell ⟨K.C, i * 11 + 3, none⟩ (.bool true)) K.C (i * 11) { y2 with tells := true } (.slice a6 n6 c6) := by
            refine ⟨?_, ?_, ?_, ?_, ?_, ?_, ?_, ⟨?_, ?_, ?_⟩, ?_⟩
            · rw [World.cell?_setCell_other _ _ _ _ (offNe (by omega))]
              exact hd2.busy
            · rw [World.cell?_setCell_other _ _ _ _ (offNe (by omega))]
              exact hd2.gone
            · rw [World.cell?_setCell_other _ _ _ _ (offNe (by omega))]
              exact hd2.write
            · exact World.cell?_setCell_same' _ _ _ (by rw [hd2.tells]; rfl)
            · rw [World.cell?_setCell_other _ _ _ _ (offNe (by omega))]
              exact hd2.key
            · rw [World.cell?_setCell_other _ _ _ _ (offNe (by omega))]
              exact hd2.value
            · rw [World.cell?_setCell_other _ _ _ _ (offNe (by omega))]
              exact hd2.rd
            · rw [World.cell?_setCell_other _ _ _ _ (offNe (by omega))]
              exact hd2.kept.1
            · rw [World.cell?_setCell_other _ _ _ _ (offNe (by omega))]
              exact hd2.kept.2.1
            · rw [World.cell?_setCell_other _ _ _ _ (offNe (by omega))]
              exact hd2.kept.2.2
            · rw [World.cell?_setCell_other _ _ _ _ (offNe (by omega))]
              exact hd2.cv
          have HD2 := hideIt (HD.out.set hi hO hC rfl)
          have HRn := hideIt (HD2.out.round HPl.out hi hn7 hk8 (by exact Hr2.out) h5 hlt)
          clear hO hC hd2 hfz2 hcb2
          go_wp2_with fail
          refine HRn.out.mono ?_
          rintro e W5 ⟨rfl, hT⟩
          have HT := hideIt hT
          clear hT HRn t2 t3 f3 s0 s2 s3 s4
          go_wp2
          exact bodyPost_ret (results_none rfl _ _ _) rfl ⟨rfl, by rw [HEr.out]; exact HT.out⟩
  · have Htx := hideIt htx
    clear htx
    have hyy : countC (S.cl i) node l.h = { S.cl i with cnt := (S.cl i).cnt ++ [node] } := by
      unfold countC
      rw [if_neg (fun h => by have := h.1; rw [Htx.out] at this; cases this)]
    have HCo2 : Hid (Pend = if (countC (S.cl i) node l.h).cnt.length < S.tell then { S with cl := updC S.cl i (countC (S.cl i) node l.h) } else if (S.cl i).tells = false ∧ ((S.cl i).write = true ∨ S.back = true) then roundS S i (tellC i (countC (S.cl i) node l.h)) else doneS S i (countC (S.cl i) node l.h)) := by
      show _ = _
      rw [HCo1.out, Htx.out]
      rfl
    have HC : Hid (HSt w0 K S W i V7 (countC (S.cl i) node l.h) a6 n6 c6) := by rw [hyy]; exact HA.out
    clear hyy HCo1 HA HGA HG3 HF3 HP3 HLb
    generalize V7 = V9 at *
    generalize hy : countC (S.cl i) node l.h = y at *
    have Hyn : Hid (y.cnt.length = n6) := by rw [← hy]; show ((S.cl i).cnt ++ [node]).length = n6; rw [← Hn6.out]
    have Hyr : Hid (0 ≤ y.rd ∧ y.rd ≤ 100000) := by rw [← hy]; exact hrd
    have Hyw : Hid (y.write = (S.cl i).write) := by rw [← hy]; rfl
    have Htl : Hid (y.tells = true) := by rw [← hy]; exact Htx.out
    have Hyt : Hid (-1 ≤ y.kept.s.t ∧ y.kept.s.t ≤ 100000) := by
      rw [← hy]
      show Hid (-1 ≤ (if (S.cl i).tells = false ∧ (S.cl i).kept.s.lt l.h.s then l.h else (S.cl i).kept).s.t ∧ (if (S.cl i).tells = false ∧ (S.cl i).kept.s.lt l.h.s then l.h else (S.cl i).kept).s.t ≤ 100000)
      split
      · exact hlh
      · exact hkt
    clear hy

    obtain ⟨hdx, hfz, hcb, ⟨s0, s2, s3, s4⟩, hnBC⟩ := HC.out.at hi
    have hnCB : ¬ K.C = K.B := fun e => hnBC e.symm
    have t0 := hdx.busy
    have t2 := hdx.write
    have t3 := hdx.tells
    have t5 := hdx.value
    have t7 := hdx.kept.1
    have t8 : V9.cell? ⟨K.C, i * 11 + 8, none⟩ = _ := hdx.kept.2.1
    have t9 : V9.cell? ⟨K.C, i * 11 + 9, none⟩ = _ := hdx.kept.2.2
    have t10 := hdx.cv
    have f0 := hfz (i * 11)
    have f3 := hfz (i * 11 + 3)
    have f7 := hfz (i * 11 + 7)
    have f8 := hfz (i * 11 + 8)
    have f9 := hfz (i * 11 + 9)
    rw [Htl.out] at t3
    by_cases hq : n6 < S.tell
    · have hqd : decide ((n6 : Int) < (S.tell : Int)) = true := decide_eq_true (by omega)
      have HE : Hid (Pend = { S with cl := updC S.cl i y }) := by
        show _ = _
        rw [HCo2.out, if_pos (by have := Hyn.out; omega)]
      clear hdx hfz hcb HCo2
      go_wp2
      exact bodyPost_ret (results_none rfl _ _ _) rfl ⟨rfl, by rw [HE.out]; exact HC.out.told HPl.out 7⟩
    have hqd : decide ((n6 : Int) < (S.tell : Int)) = false := decide_eq_false (by omega)
    have HCo4 : Hid (Pend = if (S.cl i).tells = false ∧ ((S.cl i).write = true ∨ S.back = true) then roundS S i (tellC i y) else doneS S i y) := by
      show _ = _
      rw [HCo2.out, if_neg (by have := Hyn.out; omega)]
    have HCo3 : Hid (Pend = doneS S i y) := by show _ = _; rw [HCo4.out, if_neg (fun h => by have := h.1; rw [Htx.out] at this; cases this)]
    clear HCo4
    cases hw : y.write
    · have Hwr := hideIt hw
      rw [hw] at t2
      clear hw
      have HDn := hideIt (HC.out.done HPl.out hi hs y.kept.v)
      have HEd : Hid (Pend = { S with seen := S.seen ++ [snOf i y 2 y.kept.v y.kept.s], cl := updC S.cl i { y with busy := false } }) := by
        show _ = _
        rw [HCo3.out]
        unfold doneS
        rw [Hwr.out]
        rfl
      clear hfz hcb hdx HCo3 HCo2
      go_wp2_with fail
      refine HDn.out.mono ?_
      rintro e W5 ⟨rfl, u0, uf, hT⟩
      have HT := hideIt hT
      clear hT HDn t0 t2 t3 t5 t7 t8 t9 t10 f0 f3 f7 f8 f9 s0 s2 s3 s4
      go_wp2
      go_end0
      exact ⟨rfl, by rw [HEd.out]; exact HT.out⟩
    · have Hwr := hideIt hw
      rw [hw] at t2
      clear hw
      have HDn := hideIt (HC.out.done HPl.out hi hs 0)
      have HEd : Hid (Pend = { S with seen := S.seen ++ [snOf i y 2 0 y.kept.s], cl := updC S.cl i { y with busy := false } }) := by
        show _ = _
        rw [HCo3.out]
        unfold doneS
        rw [Hwr.out]
        rfl
      clear hfz hcb hdx HCo3 HCo2
      go_wp2_with fail
      refine HDn.out.mono ?_
      rintro e W5 ⟨rfl, u0, uf, hT⟩
      have HT := hideIt hT
      clear hT HDn t0 t2 t3 t5 t7 t8 t9 t10 f0 f3 f7 f8 f9 s0 s2 s3 s4
      go_wp2
      go_end0
      exact ⟨rfl, by rw [HEd.out]; exact HT.out⟩
end
end Go.Proofs.YtncnojgemmcplaaGreatDoor.St.Dc
