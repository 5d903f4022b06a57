/-
  The statement RecordLogs: walked.
-/
import Derived.Test.YtdncnljcihblbaaDoorEcW
import Derived.Test.YtdncnljcihblbaaDoorLgX
namespace Go.Proofs.YtdncnljcihblbaaDoor
open Go.RowKit

theorem strB_append (l m : List Nat) : strB l ++ strB m = strB (l ++ m) := by
  apply ByteArray.ext
  unfold strB
  rw [ByteArray.data_append]
  apply Array.ext'
  rw [Array.toList_append, strOfNums_data, strOfNums_data, strOfNums_data]
  simp

theorem strB_size (l : List Nat) : (strB l).size = l.length := by
  have h : (strB l).data.toList.length = l.length := by
    unfold strB
    rw [strOfNums_data]; simp
  rw [← h]; rfl
/-- A log's frames and a row of bytes lie apart. -/
def DOff (W : World) (G : Nat) (v : Value) : Prop := ∀ v0, W.cell? ⟨G, 0, none⟩ = some v0 → ∀ k, v.ownBlock = some k → Off v0 k
theorem DOff.same {W W' : World} {G : Nat} {v : Value} (h : DOff W G v) (hc : W'.cell? ⟨G, 0, none⟩ = W.cell? ⟨G, 0, none⟩) : DOff W' G v := fun v0 hv => h v0 (hc ▸ hv)
theorem FrNew.doff {W W0 : World} {G base : Nat} {v : Value} {n : Nat} {xs : List Value} (h : FrNew W0.heap.size W G) (ho : W0.ownsRow base 5 1 v n xs) : DOff W G v := by
  intro v0 hv0 k hk b o m c e hbk
  have h1 := h v0 hv0 b o m c e
  have h2 := (ho.lt k hk).2
  omega
/-- A log stays where a row of bytes that lies apart is turned. -/
theorem LogIn.apart {W W' : World} {G : Nat} {l : List Ev} {s base : Nat} {v : Value} {n : Nat} {xs : List Value} (h : LogIn W G l s) (ho : W.ownsRow base 5 1 v n xs) (hG : G < base) (hd : DOff W G v) (hg : W.grownBy W' v.ownBlock) : LogIn W' G l s :=
  h.kept hg (fun k hk => ⟨by have := (ho.lt k hk).1; omega, fun u hu => hd u hu k hk⟩)
theorem LogIn.doff {W W' : World} {G : Nat} {l : List Ev} {s base : Nat} {v v' : Value} {n : Nat} {xs : List Value} (h : LogIn W G l s) (ho : W.ownsRow base 5 1 v n xs) (hG : G < base) (hd : DOff W G v) (hg : W.grownBy W' v.ownBlock) (hv : v'.ownBlock = v.ownBlock ∨ ∃ k, v'.ownBlock = some k ∧ W.heap.size ≤ k) : DOff W' G v' := by
  obtain ⟨u, hu, _, _, hty⟩ := h.fr
  have hne : some G ≠ v.ownBlock := fun e => by have := (ho.lt G e.symm).1; omega
  have hu' := hg.cell hu hne
  intro v0 hv0 k hk
  rw [hu'] at hv0
  cases hv0
  rcases hv with hv | ⟨k', hk', hle⟩
  · exact hd u hu k (hv ▸ hk)
  · rw [hk'] at hk
    cases hk
    intro b o m c e hbk
    obtain ⟨cur, fr, hh⟩ := hty b o m c e
    have := (Array.getElem?_eq_some_iff.1 hh).1
    omega
theorem ev_one_q {w : World} {b off c : Nat} {e : Ev} (h : EvAt w b off e) (hb : b < w.heap.size) (hc : 1 ≤ c) : EvQ w (.slice (some ⟨b, off, none⟩) 1 c) [e] :=
  ⟨some ⟨b, off, none⟩, c, rfl, hc, Or.inr ⟨b, off, rfl, hb, fun i hi => by
    obtain rfl : i = 0 := by simpa using hi
    rw [Nat.zero_mul, Nat.add_zero]; exact h⟩⟩
/-- events of one event, wherever it lies. -/
theorem events_at (e : Ev) (b off c : Nat) (w : World) (h : EvAt w b off e) (hb : b < w.heap.size) (hc : 1 ≤ c) :
    Calls Tryd.prog 7 #[.slice (some ⟨b, off, none⟩) 1 c] w fun r w' => ∃ g' c', r = .returned (.slice (some ⟨g', 0, none⟩) 1 c') ∧ Ev7 w' g' e ∧ Below w.heap.size w w' ∧ w.heap.size ≤ g' := by
  refine (events_any _ [e] w (ev_one_q h hb hc) (by simp)).mono ?_
  rintro r w' ⟨v, rfl, ho, hb⟩
  obtain ⟨h1, ⟨_, h2⟩ | ⟨g', cap, cur, rfl, h3, h4, h5, h6, h7, h8⟩⟩ := id ho
  · simp at h2
  · have hq := ownT_evq ho
    obtain ⟨_, _, e1, _, h0 | ⟨b, o, e2, hlt, hat⟩⟩ := hq
    · cases h0
    · cases e1; cases e2
      obtain ⟨k0, k1, k2, k3, k4, k5, k6⟩ := hat 0 (by simp)
      exact ⟨g', cap, rfl, ⟨k0, k1, k2, k3, k4, k5, k6, hlt⟩, hb, h3⟩

theorem Ev7.grown {W W' : World} {g G : Nat} {e : Ev} (h : Ev7 W g e) (hg : W.grownBy W' (some G)) (hne : g ≠ G) : Ev7 W' g e := by
  have hn : ∀ o, some (⟨g, o, none⟩ : Addr).block ≠ some G := fun o e => hne (by simpa using e)
  exact ⟨hg.cell h.c0 (hn 0), hg.cell h.c1 (hn 1), hg.cell h.c2 (hn 2), hg.cell h.c3 (hn 3), hg.cell h.c4 (hn 4), hg.cell h.c5 (hn 5), hg.cell h.c6 (hn 6), Nat.lt_of_lt_of_le h.lt hg.size⟩
theorem own_notX {W : World} {base : Nat} {e : TypeId} {z : Nat} {v : Value} {n : Nat} {xs : List Value} (h : W.ownsRow base e z v n xs) {G : Nat} (hG : G < base) : v.ownBlock = none ∨ v.ownBlock ≠ some G := by
  cases hv : v.ownBlock with
  | none => exact Or.inl rfl
  | some k => exact Or.inr (fun e => by cases e; have := (h.lt _ hv).1; omega)
theorem own_any (v : Value) : v.ownBlock = none ∨ v.ownBlock ≠ none := by cases v.ownBlock <;> simp
theorem toldZ : toldV 4 = .iface 28 (.int .i64 4) := by simp [toldV]
theorem toldY : toldV 2 = .iface 28 (.int .i64 2) := by simp [toldV]

/-- What the round of RecordLogs keeps. -/
structure LgK (w wr : World) (vd : Value) (all : List Ev) (s : Nat) : Prop where
  log : LogIn wr w.heap.size all s
  row : wr.ownsRow (w.heap.size + 1) 5 1 vd (framesL all).length (byCs (framesL all))
  off : DOff wr w.heap.size vd
  bel : Below w.heap.size w wr
theorem LgK.below {w wr wx : World} {vd : Value} {all : List Ev} {s : Nat} (h : LgK w wr vd all s) (hb : Below wr.heap.size wr wx) : LgK w wx vd all s :=
  ⟨h.log.below hb, h.row.kept (grown_of_below hb none) (own_any _), h.off.same (hb.cell (p := ⟨w.heap.size, 0, none⟩) h.log.lt), below_join h.bel hb⟩
theorem LgK.sync {w wr wx : World} {vd : Value} {all : List Ev} {s s' : Nat} (h : LgK w wr vd all s) (hl : LogIn wx w.heap.size all s') (hg : wr.grownBy wx (some w.heap.size)) (hc : wx.cell? ⟨w.heap.size, 0, none⟩ = wr.cell? ⟨w.heap.size, 0, none⟩) : LgK w wx vd all s' :=
  ⟨hl, h.row.kept hg (own_notX h.row (by omega)), h.off.same hc, below_grown h.bel hg (Nat.le_refl _)⟩

set_option maxHeartbeats 8000000 in
set_option maxRecDepth 100000 in
theorem logs_walk (vl vs : Value) (l : List Ev) (ss : List Bool) (kp : Int) (vt : Value) (tl : List Nat) (w : World) (hl : EvQ w vl l) (hs : BoQ w vs ss) (ht : ByQ w vt tl) (hG : GlE w) (h150 : l.length ≤ 150) (h100 : tl.length ≤ 100) :
    Calls Tryd.prog 5 #[vl, vs, .int .i64 kp, vt] w fun r w' => r = .returned (.bool true) ∧ Below w.heap.size w w' := by
  have HG := hideIt hG
  have HTQ := hideIt ht
  obtain ⟨al, cl, rfl, hcl, hA⟩ := hl
  obtain ⟨as', cs, rfl, hcs0, hS⟩ := hs
  obtain ⟨at', ct, rfl⟩ := ht.form
  have HA := hideIt hA
  have HS := hideIt hS
  have h150' : ¬ (150 : Int) < (l.length : Int) := by omega
  have h100' : ¬ (100 : Int) < (tl.length : Int) := by omega
  have d150 : decide ((150 : Int) < (l.length : Int)) = false := decide_eq_false h150'
  have HK00 : Hid (LgK w (w.alloc (.cells #[.slice none 0 0, .int .i64 0, .int .i64 0] 46)) (.slice none 0 0) [] 0) :=
    ⟨logIn_new w, World.ownsRow_nil _ _ _ _, (fun v0 _ k hk => by cases hk), below_alloc (Below.refl _ _) _⟩
  clear hA hS hG ht
  go_enter Tryd.func5, Tryd.ntmps5
  go_wp2
  go_loopw [10, 11, 12, 13] (fun vd su n i wr => ∃ (k : Nat) (all : List Ev) (s : Nat), k ≤ l.length ∧ i = .int .i64 k ∧ n = .int .i64 (all.length : Nat) ∧ su = .int .i64 (s : Nat) ∧ all.length ≤ k ∧ LgK w wr vd all s) (fun _ _ _ i _ => l.length - (intOf i).toNat)
  case atStart => exact ⟨0, [], 0, Nat.zero_le _, rfl, rfl, rfl, Nat.le_refl _, HK00.out⟩
  case round =>
    obtain ⟨k, all, s, hk, rfl, rfl, rfl, hak, hK⟩ := hrel
    have HK0 := hideIt hK
    obtain ⟨ad, cd, rfl⟩ := own_shapeX hK.row
    have hfew := hK.log.few
    have hfl := frames_len hK.log.ok
    have hle := hK.log.le
    clear hK HK00
    by_cases hlt : k < l.length
    · rcases HA.out with h0 | ⟨b, o, rfl, hb, hat⟩
      · rw [h0] at hlt; exact absurd hlt (Nat.not_lt_zero _)
      have hxe := (hat k hlt).below hb HK0.out.bel
      have HXE := hideIt (hat k hlt)
      have hbz : b < wr.heap.size := Nat.lt_of_lt_of_le hb HK0.out.bel.size
      have hsy : (∃ h : k < ss.length, ss[k] = true) ∨ (∃ h : k < ss.length, ss[k] = false) ∨ ¬ k < ss.length := by
        by_cases h : k < ss.length
        · cases hb : ss[k]
          · exact Or.inr (Or.inl ⟨h, hb⟩)
          · exact Or.inl ⟨h, hb⟩
        · exact Or.inr (Or.inr h)
      have hki : (k : Int) < (l.length : Int) := by omega
      have hkc : k + 1 ≤ cl := by omega
      have hkc' : ¬ cl = k := by omega
      clear hat
      generalize l[k] = x at *
      have HR := hideIt (fun W => refCheck_any x.p x.t x.k x.d x.a x.b x.r W)
      have HFN : Hid (faultN x.p x.t x.k x.d x.a x.b x.r = fltE x) := rfl
      rw [HFN.out] at HR
      clear HFN
      by_cases hf : fltE x = 0
      · by_cases hfull : all.length = 120
        · have HF120 := hideIt hfull
          have h120 : (((all.length : Nat) : Int) == 120) = true := by simp [hfull]
          have HAd : Hid (∀ W, LogIn W w.heap.size all s → Calls Tryd.prog 16 #[.pointer (some ⟨w.heap.size, 0, none⟩), x.agg] W fun r w' => r = .returned (.iface 28 (.int .i64 4)) ∧ Below W.heap.size W w') := fun W hL => add_full w.heap.size all s x W hL hf (by omega)
          have HBa := hideIt (fun W (hg : GlE W) => bare_any 4 W hg)
          rw [toldZ] at HBa
          rw [hf] at HR
          unfold Ev.agg at HAd
          clear hfull hf
          go_wp2_with fail
          refine (events_at x b (o + k * 7) (cl - k) _ hxe hbz (by omega)).mono ?_
          rintro y w1 ⟨g1, c1, rfl, hv1, hb1, hg1⟩
          have HK1 := hideIt (HK0.out.below hb1)
          obtain ⟨q0, q1, q2, q3, q4, q5, q6, qlt⟩ := hv1
          clear hb1
          go_wp2_with fail
          refine (HR.out _).mono ?_
          rintro y w2 ⟨rfl, hb2⟩
          have HK2 := hideIt ((HK1.out.below (below_alloc (Below.refl _ _) _)).below hb2)
          have HD2 := hideIt ((ev7_new w1 x 24).low hb2)
          have hw1 : w.heap.size < w1.heap.size := HK1.out.log.lt
          obtain ⟨c0, c1', c2, c3, c4, c5, c6⟩ := HXE.out.below hb HK2.out.bel
          clear hb2 q0 q1 q2 q3 q4 q5 q6 HK1 hxe
          go_wp2_with fail
          refine (HAd.out _ HK2.out.log).mono ?_
          rintro y w3 ⟨rfl, hb3⟩
          have HK3 := hideIt (HK2.out.below hb3)
          clear hb3 c0 c1' c2 c3 c4 c5 c6
          go_wp2_with fail
          refine (HBa.out _ (HG.out.below HK3.out.bel)).mono ?_
          rintro y w4 ⟨rfl, hb4⟩
          have HK := hideIt (HK3.out.below hb4)
          clear hb4 HK3 HK2
          rcases hsy with ⟨hks, hsb⟩ | ⟨hks, hsb⟩ | hks
          · rcases HS.out with h0 | ⟨bs, os, rfl, hbs, hcell⟩
            · rw [h0] at hks; exact absurd hks (Nat.not_lt_zero _)
            have d0 := (HK.out.bel.cell (p := ⟨bs, os + k, none⟩) hbs).trans (hcell k hks)
            rw [hsb] at d0
            have hks' : (k : Int) < (ss.length : Int) := by omega
            clear hcell hsb
            go_wp2_with fail
            refine (sync_any2 w.heap.size all s _ HK.out.log).mono ?_
            rintro y w5 ⟨rfl, hl5, hg5, hc5⟩
            have HK5 := hideIt (HK.out.sync hl5 hg5 hc5)
            clear hl5 hg5 hc5 d0
            go_wp2_with fail
            refine (size_any w.heap.size all _ _ HK5.out.log).mono ?_
            rintro y w6 ⟨rfl, n6, rfl⟩
            have HK6 := hideIt (HK5.out.below (below_drewN (Below.refl _ _) n6))
            clear HK5
            go_wp2
            go_roundw
            case rel => exact ⟨k + 1, all, (framesL (all)).length, by omega, by go_num, rfl, rfl, by omega, HK6.out⟩
            case measure => simp [intOf]; omega
          · rcases HS.out with h0 | ⟨bs, os, rfl, hbs, hcell⟩
            · rw [h0] at hks; exact absurd hks (Nat.not_lt_zero _)
            have d0 := (HK.out.bel.cell (p := ⟨bs, os + k, none⟩) hbs).trans (hcell k hks)
            rw [hsb] at d0
            have hks' : (k : Int) < (ss.length : Int) := by omega
            clear hcell hsb
            go_wp2_with fail
            refine (size_any w.heap.size all s _ HK.out.log).mono ?_
            rintro y w6 ⟨rfl, n6, rfl⟩
            have HK6 := hideIt (HK.out.below (below_drewN (Below.refl _ _) n6))
            go_wp2
            go_roundw
            case rel => exact ⟨k + 1, all, s, by omega, by go_num, rfl, rfl, by omega, HK6.out⟩
            case measure => simp [intOf]; omega
          · have hks' : ¬ (k : Int) < (ss.length : Int) := by omega
            go_wp2_with fail
            refine (size_any w.heap.size all s _ HK.out.log).mono ?_
            rintro y w6 ⟨rfl, n6, rfl⟩
            have HK6 := hideIt (HK.out.below (below_drewN (Below.refl _ _) n6))
            go_wp2
            go_roundw
            case rel => exact ⟨k + 1, all, s, by omega, by go_num, rfl, rfl, by omega, HK6.out⟩
            case measure => simp [intOf]; omega
        · have h120 : (((all.length : Nat) : Int) == 120) = false := by simp; omega
          have hl120 : all.length < 120 := by omega
          have HAd : Hid (∀ W, LogIn W w.heap.size all s → Calls Tryd.prog 16 #[.pointer (some ⟨w.heap.size, 0, none⟩), x.agg] W fun r w' => r = .returned .nilIface ∧ LogIn w' w.heap.size (all ++ [x]) s ∧ W.grownBy w' (some w.heap.size) ∧ FrNew W.heap.size w' w.heap.size) := fun W hL => add_ok2 w.heap.size all s x W hL hf (by omega)
          have HBa := hideIt (fun W (hg : GlE W) => bare_any 0 W hg)
          rw [toldV_zero] at HBa
          have hok := okE_of hf
          have hel := encL_len hok
          have HBy : Hid (Byt (encL x)) := encL_byte hok
          have HEn : Hid (∀ W, Calls Tryd.prog 11 #[x.agg] W fun r w' => ∃ v, r = .returned v ∧ ByQ w' v (encL x) ∧ Below W.heap.size W w') := by
            intro W
            refine Calls.mono (refEncode_any x W hok) ?_
            rintro y w' ⟨v, rfl, ho, hb⟩
            exact ⟨v, rfl, own_byq HBy.out ho, hb⟩
          have HFr : Hid (∀ W v, ByQ W v (encL x) → Calls Tryd.prog 13 #[v] W fun r w' => ∃ v', r = .returned v' ∧ ByQ w' v' (frameL (encL x)) ∧ Below W.heap.size W w') := by
            intro W v hq
            refine Calls.mono (refFrame_any v (encL x) W hq (by omega)) ?_
            rintro y w' ⟨v', rfl, ho, hb⟩
            exact ⟨v', rfl, own_byq (frame_byte HBy.out) ho, hb⟩
          have HFl : Hid (0 < (frameL (encL x)).length ∧ (frameL (encL x)).length ≤ 100) := by
            show 0 < (frameL (encL x)).length ∧ (frameL (encL x)).length ≤ 100
            rw [frame_len]; omega
          rw [hf] at HR
          unfold Ev.agg at HAd HEn
          clear hfull hf
          go_wp2_with fail
          refine (events_at x b (o + k * 7) (cl - k) _ hxe hbz (by omega)).mono ?_
          rintro y w1 ⟨g1, c1, rfl, hv1, hb1, hg1⟩
          have HK1 := hideIt (HK0.out.below hb1)
          obtain ⟨q0, q1, q2, q3, q4, q5, q6, qlt⟩ := hv1
          clear hb1
          go_wp2_with fail
          refine (HR.out _).mono ?_
          rintro y w2 ⟨rfl, hb2⟩
          have HK2 := hideIt ((HK1.out.below (below_alloc (Below.refl _ _) _)).below hb2)
          have HD2 := hideIt ((ev7_new w1 x 24).low hb2)
          have hw1 : w.heap.size < w1.heap.size := HK1.out.log.lt
          obtain ⟨c0, c1', c2, c3, c4, c5, c6⟩ := HXE.out.below hb HK2.out.bel
          clear hb2 q0 q1 q2 q3 q4 q5 q6 HK1 hxe
          go_wp2_with fail
          refine (HAd.out _ HK2.out.log).mono ?_
          rintro y w3 ⟨rfl, hl3, hg3, hf3⟩
          have HD3 := hideIt (HD2.out.grown hg3 (by omega))
          have HL3 := hideIt hl3
          have HO3 := hideIt (HK2.out.row.kept hg3 (own_notX HK2.out.row (by omega)))
          have HX3 := hideIt (below_grown HK2.out.bel hg3 (Nat.le_refl _))
          have HN3 := hideIt (hf3.doff HK2.out.row)
          clear hl3 hg3 hf3 c0 c1' c2 c3 c4 c5 c6 HK2
          go_wp2_with fail
          refine (HBa.out _ (HG.out.below HX3.out)).mono ?_
          rintro y w4 ⟨rfl, hb4⟩
          obtain ⟨q0, q1, q2, q3, q4, q5, q6, qlt⟩ := HD3.out.low hb4
          have HB4 := hideIt hb4
          clear hb4
          go_wp2_with fail
          refine (HEn.out _).mono ?_
          rintro y w5 ⟨v5, rfl, hq5, hb5⟩
          have HB5 := hideIt (below_join HB4.out hb5)
          have HQ5 := hideIt hq5
          clear hb5 hq5 q0 q1 q2 q3 q4 q5 q6
          go_wp2_with fail
          refine (HFr.out _ _ HQ5.out).mono ?_
          rintro y w6 ⟨v6, rfl, hq6, hb6⟩
          have HB6 := hideIt (below_join HB5.out hb6)
          have HQ6 := hideIt hq6
          clear hb6 hq6
          have HO6 := hideIt (HO3.out.kept (grown_of_below HB6.out none) (own_any _))
          have HL6 := hideIt (HL3.out.below HB6.out)
          have HN6 := hideIt (HN3.out.same (HB6.out.cell (p := ⟨w.heap.size, 0, none⟩) HL3.out.lt))
          have HX6 := hideIt (below_join HX3.out HB6.out)
          go_wp2_with (at_builtin; refine wpList_append_by2 rfl _ _ rfl (w.heap.size + 1) _ _ (framesL all) (frameL (encL x)) rfl rfl HO6.out HQ6.out HFl.out.1 ?o1 ?o2 ?_)
          case o1 => have := HFl.out.2; omega
          case o2 => have := HL6.out.lt; omega
          intro v7 w7 ho7 hg7 hv7
          have ho8 : w7.ownsRow (w.heap.size + 1) 5 1 v7 (framesL (all ++ [x])).length (byCs (framesL (all ++ [x]))) := by rw [frames_snoc, List.length_append]; simpa using ho7
          obtain ⟨a7, c7, e7⟩ := own_shapeX ho8
          have HK : Hid (LgK w w7 v7 (all ++ [x]) s) := ⟨HL6.out.apart HO6.out (by omega) HN6.out hg7, ho8, HL6.out.doff HO6.out (by omega) HN6.out hg7 hv7, HX6.out.grown hg7 HX6.out.size (fun g hg => Nat.le_trans (by omega) (HO6.out.lt g hg).1)⟩
          rw [e7] at HK ⊢
          clear ho7 ho8 hg7 hv7 e7 HL6 HO6 HN6 HX6 HQ6 HB6 HQ5 HB5 HB4 HX3 HN3 HL3 HO3 HD3
          rcases hsy with ⟨hks, hsb⟩ | ⟨hks, hsb⟩ | hks
          · rcases HS.out with h0 | ⟨bs, os, rfl, hbs, hcell⟩
            · rw [h0] at hks; exact absurd hks (Nat.not_lt_zero _)
            have d0 := (HK.out.bel.cell (p := ⟨bs, os + k, none⟩) hbs).trans (hcell k hks)
            rw [hsb] at d0
            have hks' : (k : Int) < (ss.length : Int) := by omega
            clear hcell hsb
            go_wp2_with fail
            refine (sync_any2 w.heap.size (all ++ [x]) s _ HK.out.log).mono ?_
            rintro y w5 ⟨rfl, hl5, hg5, hc5⟩
            have HK5 := hideIt (HK.out.sync hl5 hg5 hc5)
            clear hl5 hg5 hc5 d0
            go_wp2_with fail
            refine (size_any w.heap.size (all ++ [x]) _ _ HK5.out.log).mono ?_
            rintro y w6 ⟨rfl, n6, rfl⟩
            have HK6 := hideIt (HK5.out.below (below_drewN (Below.refl _ _) n6))
            clear HK5
            go_wp2
            go_roundw
            case rel => exact ⟨k + 1, (all ++ [x]), (framesL ((all ++ [x]))).length, by omega, by go_num, val_int (by simp), rfl, by simp; omega, HK6.out⟩
            case measure => simp [intOf]; omega
          · rcases HS.out with h0 | ⟨bs, os, rfl, hbs, hcell⟩
            · rw [h0] at hks; exact absurd hks (Nat.not_lt_zero _)
            have d0 := (HK.out.bel.cell (p := ⟨bs, os + k, none⟩) hbs).trans (hcell k hks)
            rw [hsb] at d0
            have hks' : (k : Int) < (ss.length : Int) := by omega
            clear hcell hsb
            go_wp2_with fail
            refine (size_any w.heap.size (all ++ [x]) s _ HK.out.log).mono ?_
            rintro y w6 ⟨rfl, n6, rfl⟩
            have HK6 := hideIt (HK.out.below (below_drewN (Below.refl _ _) n6))
            go_wp2
            go_roundw
            case rel => exact ⟨k + 1, (all ++ [x]), s, by omega, by go_num, val_int (by simp), rfl, by simp; omega, HK6.out⟩
            case measure => simp [intOf]; omega
          · have hks' : ¬ (k : Int) < (ss.length : Int) := by omega
            go_wp2_with fail
            refine (size_any w.heap.size (all ++ [x]) s _ HK.out.log).mono ?_
            rintro y w6 ⟨rfl, n6, rfl⟩
            have HK6 := hideIt (HK.out.below (below_drewN (Below.refl _ _) n6))
            go_wp2
            go_roundw
            case rel => exact ⟨k + 1, (all ++ [x]), s, by omega, by go_num, val_int (by simp), rfl, by simp; omega, HK6.out⟩
            case measure => simp [intOf]; omega
      · have hfe : (fltE x == 0) = false := by simp [hf]
        have HAd := hideIt (fun W => add_bad w.heap.size x W hf)
        have HBa := hideIt (fun W (hg : GlE W) => bare_any (fltE x) W hg)
        have hT : toldV (fltE x) = .iface 28 (.int .i64 (fltE x)) := toldV_pos hf
        simp only [hT] at HAd HBa
        unfold Ev.agg at HAd
        clear hT hf
        generalize fltE x = f at *
        go_wp2_with fail
        refine (events_at x b (o + k * 7) (cl - k) _ hxe hbz (by omega)).mono ?_
        rintro y w1 ⟨g1, c1, rfl, hv1, hb1, hg1⟩
        have HK1 := hideIt (HK0.out.below hb1)
        obtain ⟨q0, q1, q2, q3, q4, q5, q6, qlt⟩ := hv1
        clear hb1
        go_wp2_with fail
        refine (HR.out _).mono ?_
        rintro y w2 ⟨rfl, hb2⟩
        have HK2 := hideIt ((HK1.out.below (below_alloc (Below.refl _ _) _)).below hb2)
        have HD2 := hideIt ((ev7_new w1 x 24).low hb2)
        have hw1 : w.heap.size < w1.heap.size := HK1.out.log.lt
        obtain ⟨c0, c1', c2, c3, c4, c5, c6⟩ := HXE.out.below hb HK2.out.bel
        clear hb2 q0 q1 q2 q3 q4 q5 q6 HK1 hxe
        go_wp2_with fail
        refine (HAd.out _).mono ?_
        rintro y w3 ⟨rfl, hb3⟩
        have HK3 := hideIt (HK2.out.below hb3)
        clear hb3 c0 c1' c2 c3 c4 c5 c6
        go_wp2_with fail
        refine (HBa.out _ (HG.out.below HK3.out.bel)).mono ?_
        rintro y w4 ⟨rfl, hb4⟩
        have HK := hideIt (HK3.out.below hb4)
        clear hb4 HK3 HK2
        rcases hsy with ⟨hks, hsb⟩ | ⟨hks, hsb⟩ | hks
        · rcases HS.out with h0 | ⟨bs, os, rfl, hbs, hcell⟩
          · rw [h0] at hks; exact absurd hks (Nat.not_lt_zero _)
          have d0 := (HK.out.bel.cell (p := ⟨bs, os + k, none⟩) hbs).trans (hcell k hks)
          rw [hsb] at d0
          have hks' : (k : Int) < (ss.length : Int) := by omega
          clear hcell hsb
          go_wp2_with fail
          refine (sync_any2 w.heap.size all s _ HK.out.log).mono ?_
          rintro y w5 ⟨rfl, hl5, hg5, hc5⟩
          have HK5 := hideIt (HK.out.sync hl5 hg5 hc5)
          clear hl5 hg5 hc5 d0
          go_wp2_with fail
          refine (size_any w.heap.size all _ _ HK5.out.log).mono ?_
          rintro y w6 ⟨rfl, n6, rfl⟩
          have HK6 := hideIt (HK5.out.below (below_drewN (Below.refl _ _) n6))
          clear HK5
          go_wp2
          go_roundw
          case rel => exact ⟨k + 1, all, (framesL (all)).length, by omega, by go_num, rfl, rfl, by omega, HK6.out⟩
          case measure => simp [intOf]; omega
        · rcases HS.out with h0 | ⟨bs, os, rfl, hbs, hcell⟩
          · rw [h0] at hks; exact absurd hks (Nat.not_lt_zero _)
          have d0 := (HK.out.bel.cell (p := ⟨bs, os + k, none⟩) hbs).trans (hcell k hks)
          rw [hsb] at d0
          have hks' : (k : Int) < (ss.length : Int) := by omega
          clear hcell hsb
          go_wp2_with fail
          refine (size_any w.heap.size all s _ HK.out.log).mono ?_
          rintro y w6 ⟨rfl, n6, rfl⟩
          have HK6 := hideIt (HK.out.below (below_drewN (Below.refl _ _) n6))
          go_wp2
          go_roundw
          case rel => exact ⟨k + 1, all, s, by omega, by go_num, rfl, rfl, by omega, HK6.out⟩
          case measure => simp [intOf]; omega
        · have hks' : ¬ (k : Int) < (ss.length : Int) := by omega
          go_wp2_with fail
          refine (size_any w.heap.size all s _ HK.out.log).mono ?_
          rintro y w6 ⟨rfl, n6, rfl⟩
          have HK6 := hideIt (HK.out.below (below_drewN (Below.refl _ _) n6))
          go_wp2
          go_roundw
          case rel => exact ⟨k + 1, all, s, by omega, by go_num, rfl, rfl, by omega, HK6.out⟩
          case measure => simp [intOf]; omega
    · have HBa := hideIt (fun W (hg : GlE W) => bare_any 2 W hg)
      rw [toldY] at HBa
      by_cases hbad : kp < 0 ∨ ((framesL all).length : Int) - s < kp
      · have HC := hideIt (fun W (hL : LogIn W w.heap.size all s) => crash_bad w.heap.size all s kp (.slice at' tl.length ct) W hL hbad)
        have hcase : (kp < 0) ∨ (¬ kp < 0 ∧ ((framesL all).length : Int) - s < kp) := by omega
        clear hbad
        rcases hcase with h1 | ⟨h1, h2⟩
        · have d1 : decide (kp < 0) = true := decide_eq_true h1
          go_wp2_with fail
          refine (HC.out _ HK0.out.log).mono ?_
          rintro y w1 ⟨rfl, hb1⟩
          have HK1 := hideIt (HK0.out.below hb1)
          clear hb1
          go_wp2_with fail
          refine (HBa.out _ (HG.out.below HK1.out.bel)).mono ?_
          rintro y w2 ⟨rfl, hb2⟩
          have HB2 := hideIt (below_join HK1.out.bel hb2)
          clear hb2
          go_wp2
          go_ret
          exact ⟨rfl, HB2.out⟩
        · have d1 : decide (kp < 0) = false := decide_eq_false h1
          go_wp2_with fail
          refine (HC.out _ HK0.out.log).mono ?_
          rintro y w1 ⟨rfl, hb1⟩
          have HK1 := hideIt (HK0.out.below hb1)
          clear hb1
          go_wp2_with fail
          refine (HBa.out _ (HG.out.below HK1.out.bel)).mono ?_
          rintro y w2 ⟨rfl, hb2⟩
          have HB2 := hideIt (below_join HK1.out.bel hb2)
          clear hb2
          go_wp2
          go_ret
          exact ⟨rfl, HB2.out⟩
      · have hk0 : 0 ≤ kp := by omega
        have hk1 : kp ≤ ((framesL all).length : Int) - s := by omega
        clear hbad
        obtain ⟨m, rfl⟩ := Int.eq_ofNat_of_zero_le hk0
        have hml : s + m ≤ (framesL all).length := by omega
        have HC := hideIt (fun W (hL : LogIn W w.heap.size all s) (hq : ByQ W (.slice at' tl.length ct) tl) => crash_ok w.heap.size all s m (.slice at' tl.length ct) tl W hL (by omega) hq (by omega))
        have HBt : Hid (Byt ((framesL all).take (s + m) ++ tl)) := ((frames_byte HK0.out.log.ok).take _).append HTQ.out.1
        have HBf : Hid (Byt (framesL all)) := frames_byte HK0.out.log.ok
        have h1 : ¬ (m : Int) < 0 := by omega
        have d1 : decide ((m : Int) < 0) = false := decide_eq_false h1
        have h2 : ¬ ((framesL all).length : Int) - s < (m : Int) := by omega
        go_wp2_with fail
        refine (HC.out _ HK0.out.log (HTQ.out.below HK0.out.bel)).mono ?_
        rintro y w1 ⟨v1, rfl, ho1, hb1⟩
        have HQ1 := hideIt (own_byq HBt.out ho1)
        have HK1 := hideIt (HK0.out.below hb1)
        have HQD := hideIt ((own_byq HBf.out HK1.out.row).cut (s + m) hml)
        have HQT := hideIt (HTQ.out.below HK1.out.bel)
        have hlen1 : ((framesL all).take (s + m) ++ tl).length = s + m + tl.length := by simp; omega
        rw [hlen1] at ho1
        obtain ⟨a1, c1, rfl⟩ := own_shapeX ho1
        have hcd : (framesL all).length ≤ cd := by
          obtain ⟨_, ⟨e, h0⟩ | ⟨g, cap, cur, e, _, _, h5, _⟩⟩ := HK1.out.row
          · injection e with _ h6 h7; omega
          · injection e with _ h6 h7; omega
        have HSA := hideIt (strB_append ((framesL all).take (s + m)) tl)
        have HSZ : Hid (¬ 9223372036854775807 < (strB ((framesL all).take (s + m))).size + (strB tl).size) := by
          show ¬ 9223372036854775807 < (strB ((framesL all).take (s + m))).size + (strB tl).size
          rw [strB_size, strB_size, List.length_take]; omega
        clear ho1 hb1 HC HBt HBf hlen1
        go_wp2_with fail
        have hwr : IntKind.i64.wrap ((s : Int) + (m : Int)) = (s : Int) + (m : Int) := by rw [IntKind.wrap_i64]; omega
        have hsm : (s : Int) + (m : Int) ≤ (cd : Int) := by omega
        have hsm0 : (0 : Int) ≤ (s : Int) + (m : Int) := by omega
        have htn : ((s : Int) + (m : Int)).toNat = s + m := by omega
        refine wp_region_held_drew (S := fun W => Below w1.heap.size w1 W) (by kernel_rfl) (below_drewN (Below.refl _ _) 1) (fun hHeld => ?_)
        refine wpAnyH_take (i := 0) (v := ?_) rfl (by kernel_rfl) (by kernel_rfl) (by kernel_rfl) (fun _ _ _ h => h) (Or.inl ⟨by rfl, ?_⟩) (by assumption) ?_
        rotate_left 1
        · intro wz hwz
          go_simp
          all_goals with_reducible rfl
        simp only [Act.put, List.setIfInBounds_toArray, List.set_cons_zero, List.set_cons_succ, List.getElem_toArray, List.getElem_cons_zero]
        refine wpAnyH_take (i := 1) (v := ?_) rfl (by kernel_rfl) (by kernel_rfl) (by kernel_rfl) (fun _ _ _ h => h) (Or.inl ⟨by rfl, ?_⟩) (by assumption) ?_
        rotate_left 1
        · intro wz hwz
          go_simp
          all_goals with_reducible rfl
        simp only [Act.put, List.setIfInBounds_toArray, List.set_cons_zero, List.set_cons_succ, List.getElem_toArray, List.getElem_cons_zero, List.getElem_cons_succ]
        refine wpAnyH_take (i := 2) (v := ?_) rfl (by kernel_rfl) (by kernel_rfl) (by kernel_rfl) (fun _ _ _ h => h) (Or.inl ⟨by rfl, ?_⟩) (by assumption) ?_
        rotate_left 1
        · intro wz hwz
          go_simp
          all_goals with_reducible rfl
        simp only [Act.put, List.setIfInBounds_toArray, List.set_cons_zero, List.set_cons_succ, List.getElem_toArray, List.getElem_cons_zero, List.getElem_cons_succ]
        refine wpAnyH_take (i := 3) (v := ?_) rfl (by kernel_rfl) (by kernel_rfl) (by kernel_rfl) (fun _ _ _ h => h) (Or.inl ⟨by rfl, ?_⟩) (by assumption) ?_
        rotate_left 1
        · intro wz hwz
          go_simp
          all_goals with_reducible rfl
        simp only [Act.put, List.setIfInBounds_toArray, List.set_cons_zero, List.set_cons_succ, List.getElem_toArray, List.getElem_cons_zero, List.getElem_cons_succ]
        refine wpAnyH_take (i := 4) (v := ?_) rfl (by kernel_rfl) (by kernel_rfl) (by kernel_rfl) (fun _ _ _ h => h) (Or.inl ⟨by rfl, ?_⟩) (by assumption) ?_
        rotate_left 1
        · intro wz hwz
          have hst := (HQ1.out.below hwz).str
          go_simp
          all_goals with_reducible rfl
        simp only [Act.put, List.setIfInBounds_toArray, List.set_cons_zero, List.set_cons_succ, List.getElem_toArray, List.getElem_cons_zero, List.getElem_cons_succ]
        refine wpAnyH_take (i := 5) (v := ?_) rfl (by kernel_rfl) (by kernel_rfl) (by kernel_rfl) (fun _ _ _ h => h) (Or.inl ⟨by rfl, ?_⟩) (by assumption) ?_
        rotate_left 1
        · intro wz hwz
          go_simp
          all_goals with_reducible rfl
        simp only [Act.put, List.setIfInBounds_toArray, List.set_cons_zero, List.set_cons_succ, List.getElem_toArray, List.getElem_cons_zero, List.getElem_cons_succ]
        refine wpAnyH_take (i := 6) (v := ?_) rfl (by kernel_rfl) (by kernel_rfl) (by kernel_rfl) (fun _ _ _ h => h) (Or.inl ⟨by rfl, ?_⟩) (by assumption) ?_
        rotate_left 1
        · intro wz hwz
          go_simp
          all_goals with_reducible rfl
        simp only [Act.put, List.setIfInBounds_toArray, List.set_cons_zero, List.set_cons_succ, List.getElem_toArray, List.getElem_cons_zero, List.getElem_cons_succ]
        refine wpAnyH_take (i := 7) (v := ?_) rfl (by kernel_rfl) (by kernel_rfl) (by kernel_rfl) (fun _ _ _ h => h) (Or.inl ⟨by rfl, ?_⟩) (by assumption) ?_
        rotate_left 1
        · intro wz hwz
          go_simp
          all_goals with_reducible rfl
        simp only [Act.put, List.setIfInBounds_toArray, List.set_cons_zero, List.set_cons_succ, List.getElem_toArray, List.getElem_cons_zero, List.getElem_cons_succ]
        refine wpAnyH_take (i := 8) (v := ?_) rfl (by kernel_rfl) (by kernel_rfl) (by kernel_rfl) (fun _ _ _ h => h) (Or.inl ⟨by rfl, ?_⟩) (by assumption) ?_
        rotate_left 1
        · intro wz hwz
          go_simp
          all_goals with_reducible rfl
        simp only [Act.put, List.setIfInBounds_toArray, List.set_cons_zero, List.set_cons_succ, List.getElem_toArray, List.getElem_cons_zero, List.getElem_cons_succ]
        refine wpAnyH_take (i := 9) (v := ?_) rfl (by kernel_rfl) (by kernel_rfl) (by kernel_rfl) (fun _ _ _ h => h) (Or.inl ⟨by rfl, ?_⟩) (by assumption) ?_
        rotate_left 1
        · intro wz hwz
          go_simp
          all_goals with_reducible rfl
        simp only [Act.put, List.setIfInBounds_toArray, List.set_cons_zero, List.set_cons_succ, List.getElem_toArray, List.getElem_cons_zero, List.getElem_cons_succ]
        refine wpAnyH_take (i := 10) (v := ?_) rfl (by kernel_rfl) (by kernel_rfl) (by kernel_rfl) (fun _ _ _ h => h) (Or.inl ⟨by rfl, ?_⟩) (by assumption) ?_
        rotate_left 1
        · intro wz hwz
          have hst := (HQD.out.below hwz).str
          go_simp
          all_goals with_reducible rfl
        simp only [Act.put, List.setIfInBounds_toArray, List.set_cons_zero, List.set_cons_succ, List.getElem_toArray, List.getElem_cons_zero, List.getElem_cons_succ]
        refine wpAnyH_take (i := 11) (v := ?_) rfl (by kernel_rfl) (by kernel_rfl) (by kernel_rfl) (fun _ _ _ h => h) (Or.inl ⟨by rfl, ?_⟩) (by assumption) ?_
        rotate_left 1
        · intro wz hwz
          go_simp
          all_goals with_reducible rfl
        simp only [Act.put, List.setIfInBounds_toArray, List.set_cons_zero, List.set_cons_succ, List.getElem_toArray, List.getElem_cons_zero, List.getElem_cons_succ]
        refine wpAnyH_take (i := 12) (v := ?_) rfl (by kernel_rfl) (by kernel_rfl) (by kernel_rfl) (fun _ _ _ h => h) (Or.inl ⟨by rfl, ?_⟩) (by assumption) ?_
        rotate_left 1
        · intro wz hwz
          have hst := (HQT.out.below hwz).str
          go_simp
          all_goals with_reducible rfl
        simp only [Act.put, List.setIfInBounds_toArray, List.set_cons_zero, List.set_cons_succ, List.getElem_toArray, List.getElem_cons_zero, List.getElem_cons_succ]
        refine wpAnyH_take (i := 13) (v := ?_) rfl (by kernel_rfl) (by kernel_rfl) (by kernel_rfl) (fun _ _ _ h => h) (Or.inl ⟨by rfl, ?_⟩) (by assumption) ?_
        rotate_left 1
        · intro wz hwz
          have hss := HSA.out; have hzz := HSZ.out
          go_simp
          all_goals with_reducible rfl
        simp only [Act.put, List.setIfInBounds_toArray, List.set_cons_zero, List.set_cons_succ, List.getElem_toArray, List.getElem_cons_zero, List.getElem_cons_succ]
        refine wpAnyH_take (i := 14) (v := ?_) rfl (by kernel_rfl) (by kernel_rfl) (by kernel_rfl) (fun _ _ _ h => h) (Or.inl ⟨by rfl, ?_⟩) (by assumption) ?_
        rotate_left 1
        · intro wz hwz
          have hss := str_self (strB ((framesL all).take (s + m) ++ tl))
          go_simp
          all_goals with_reducible rfl
        simp only [Act.put, List.setIfInBounds_toArray, List.set_cons_zero, List.set_cons_succ, List.getElem_toArray, List.getElem_cons_zero, List.getElem_cons_succ]
        refine wpAnyH_take (i := 15) (v := ?_) rfl (by kernel_rfl) (by kernel_rfl) (by kernel_rfl) (fun _ _ _ h => h) (Or.inl ⟨by rfl, ?_⟩) (by assumption) ?_
        rotate_left 1
        · intro wz hwz
          go_simp
          all_goals with_reducible rfl
        simp only [Act.put, List.setIfInBounds_toArray, List.set_cons_zero, List.set_cons_succ, List.getElem_toArray, List.getElem_cons_zero, List.getElem_cons_succ]
        refine wpAnyH_take (i := 16) (v := ?_) rfl (by kernel_rfl) (by kernel_rfl) (by kernel_rfl) (fun _ _ _ h => h) (Or.inl ⟨by rfl, ?_⟩) (by assumption) ?_
        rotate_left 1
        · intro wz hwz
          go_simp
          all_goals with_reducible rfl
        simp only [Act.put, List.setIfInBounds_toArray, List.set_cons_zero, List.set_cons_succ, List.getElem_toArray, List.getElem_cons_zero, List.getElem_cons_succ]
        refine wpAnyH_done (by kernel_rfl) ?_ _
        go_wp2
        go_ret
        exact ⟨rfl, below_join HK1.out.bel hHeld⟩

theorem logs_any (vl vs : Value) (l : List Ev) (ss : List Bool) (kp : Int) (vt : Value) (tl : List Nat) (w : World) (hl : EvQ w vl l) (hs : BoQ w vs ss) (ht : ByQ w vt tl) (hG : GlE w) :
    Calls Tryd.prog 5 #[vl, vs, .int .i64 kp, vt] w fun r w' => r = .returned (.bool true) ∧ Below w.heap.size w w' := by
  by_cases h1 : l.length ≤ 150
  · by_cases h2 : tl.length ≤ 100
    · exact logs_walk vl vs l ss kp vt tl w hl hs ht hG h1 h2
    · obtain ⟨al, cl, rfl, hcl, hA⟩ := hl
      obtain ⟨as', cs, rfl, hcs0, hS⟩ := hs
      obtain ⟨at', ct, rfl⟩ := ht.form
      have h1' : ¬ (150 : Int) < (l.length : Int) := by omega
      have h2' : (100 : Int) < (tl.length : Int) := by omega
      have d1 : decide ((150 : Int) < (l.length : Int)) = false := decide_eq_false h1'
      clear hA hS ht
      go_enter Tryd.func5, Tryd.ntmps5
      go_wp2
      go_ret
      exact ⟨rfl, Below.refl _ _⟩
  · obtain ⟨al, cl, rfl, hcl, hA⟩ := hl
    obtain ⟨as', cs, rfl, hcs0, hS⟩ := hs
    obtain ⟨at', ct, rfl⟩ := ht.form
    have h1' : (150 : Int) < (l.length : Int) := by omega
    have d1 : decide ((150 : Int) < (l.length : Int)) = true := decide_eq_true h1'
    clear hA hS ht
    go_enter Tryd.func5, Tryd.ntmps5
    go_wp2
    go_ret
    exact ⟨rfl, Below.refl _ _⟩

end Go.Proofs.YtdncnljcihblbaaDoor
