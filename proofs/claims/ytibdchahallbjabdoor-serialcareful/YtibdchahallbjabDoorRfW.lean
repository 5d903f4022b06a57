/-
  The document's Careful, walked.
-/
import Derived.Test.YtibdchahallbjabDoorCrQZ
import Derived.Test.YtibdchahallbjabDoorRgL
import Derived.Deep.CutBlock
import Derived.Deep.DeepCutAuto
namespace Go.Proofs.YtibdchahallbjabDoor
open Go.RowKit

/-- What is so in the midst: the box of the steps, the step that is looked at. -/
structure RfAt (w : World) (l : List Stp) (a : Option Addr) (cap : Nat) (Z : Nat) (x : Stp) (wr : World) : Prop where
  box : wr.cell? ⟨w.heap.size, 0, none⟩ = some (.slice a l.length cap)
  own : StpN wr Z x
  zlt : Z < wr.heap.size
  bel : Below w.heap.size w wr
theorem RfAt.below {w : World} {l : List Stp} {a : Option Addr} {cap Z : Nat} {x : Stp} {wr w' : World} (h : RfAt w l a cap Z x wr) (hb : Below wr.heap.size wr w') : RfAt w l a cap Z x w' :=
  ⟨(hb.cell (p := ⟨w.heap.size, 0, none⟩) (World.block_lt_of_cell? wr _ h.box)).trans h.box, h.own.below hb h.zlt, Nat.lt_of_lt_of_le h.zlt hb.size, belJ h.bel hb⟩

theorem belDr (w : World) : Below w.heap.size w w.drew := (Below.refl _ _).drew

set_option maxRecDepth 100000 in
set_option maxHeartbeats 16000000 in
theorem rCareful_any (l : List Stp) (ok : OkS l) (a : Option Addr) (cap : Nat) (w : World) (hcap : l.length ≤ cap) (hn : l.length ≤ 60) (hl : StpsQ w a l) :
    Calls Tryd.prog 17 #[.slice a l.length cap] w fun e w' => e = .returned (.tuple #[.bool (noneB (badR l) l.length), .bool (noneB (badC l) l.length), .bool (noneB (badS l) l.length)]) ∧ Below w.heap.size w w' := by
  have HL := hideIt hl
  have HOk := hideIt ok
  have HX0 : Hid ((w.alloc (.cells #[.slice a l.length cap] 23)).cell? ⟨w.heap.size, 0, none⟩ = some (.slice a l.length cap)) := hideIt (by simp)
  have HB0 : Hid (Below w.heap.size w (w.alloc (.cells #[.slice a l.length cap] 23))) := belA (Below.refl _ _) _
  clear hl ok
  go_enter Tryd.func17, Tryd.ntmps17
  go_wp2
  generalize w.alloc _ = W at HX0 HB0 ⊢
  go_loopw [5, 6, 7, 19] (fun r c s i wr => ∃ k : Nat, k ≤ l.length ∧ i = .int .i64 k ∧ r = .bool (noneB (badR l) k) ∧ c = .bool (noneB (badC l) k) ∧ s = .bool (noneB (badS l) k) ∧ wr.cell? ⟨w.heap.size, 0, none⟩ = some (.slice a l.length cap) ∧ Below w.heap.size w wr) (fun _ _ _ i _ => l.length - (intOf i).toNat)
  case atStart => exact ⟨0, Nat.zero_le _, rfl, rfl, rfl, rfl, HX0.out, HB0.out⟩
  case round =>
    clear HX0 HB0
    obtain ⟨k, hk, rfl, rfl, rfl, rfl, hx, hb⟩ := hrel
    have HX := hideIt hx
    have HB := hideIt hb
    clear hx hb
    have HS := hideIt (noneB_succ (badS l) k)
    have HCl := hideIt (noneB_succ (badC l) k)
    have HRe := hideIt (noneB_succ (badR l) k)
    by_cases hkl : k < l.length
    · obtain ⟨b, off, rfl, hlt, hst⟩ : ∃ b off, a = some ⟨b, off, none⟩ ∧ b < w.heap.size ∧ StpsAt w b off l := by
        rcases HL.out with h | h
        · subst h; simp at hkl
        · exact h
      obtain ⟨c0, c1, c2⟩ := (hst k hkl).below hlt HB.out
      have HSt := hideIt hst
      have hkl' : (k : Int) < l.length := by omega
      have htx := HOk.out.tx hkl
      have HbS : Hid (badS l k = (openW l k).isSome) := rfl
      have HbC : Hid (badC l k = ((openW l k).isSome && (stZ l k).k == 1)) := rfl
      have HbR : Hid (∀ t, openW l k = some t → badR l k = ((stZ l k).k == 1 && decide (endK l 3 (stZ l k).p < endK l 3 t))) := fun t h => by unfold badR; rw [h]
      have HbN : Hid (openW l k = none → badR l k = false) := fun h => by unfold badR; rw [h]
      have HOv : Hid (2 < (stZ l k).k → openW l k = none) := fun h => by unfold openW; rw [if_pos h]
      have HFw : Hid (¬ 2 < (stZ l k).k → (fwV l k = -1 ∧ openW l k = none) ∨ (0 ≤ fwV l k ∧ fwV l k ≤ 7 ∧ openW l k = if fwV l k = (stZ l k).p ∨ ovN l (fwV l k) < k then none else some (fwV l k))) := open_fw HOk.out hkl
      have HFd : Hid (∀ m, findW l k m = ((stZ l m).k == 2 && (stZ l m).m == (stZ l k).m && !decide (endK l 4 (stZ l m).p < k))) := fun m => rfl
      have hkd := HOk.out.kind hkl
      rw [stZ_at hkl] at htx hkd HbC HbR HOv HFw HFd
      generalize l[k] = x at c0 c1 c2 htx hkd HbC HbR HOv HFw HFd
      have HA : Hid (RfAt w l (some ⟨b, off, none⟩) cap wr.heap.size x (wr.alloc (.cells #[.int .i64 x.p, .int .i64 x.k, .int .i64 x.m] 62))) :=
        ⟨cell_alloc HX.out, ⟨by simp, by simp, by simp⟩, by simp, belA HB.out _⟩
      have hxl := World.block_lt_of_cell? wr _ HX.out
      have RNone : Hid (openW l k = none → noneB (badR l) (k + 1) = noneB (badR l) k ∧ noneB (badC l) (k + 1) = noneB (badC l) k ∧ noneB (badS l) (k + 1) = noneB (badS l) k) := fun h => by
        rw [HS.out, HCl.out, HRe.out, HbS.out, HbC.out, HbN.out h, h]; simp
      clear hst HX HB
      go_upto_region 6 with fail
      generalize wr.alloc _ = WA at HA ⊢
      generalize wr.heap.size = Z at HA hxl ⊢
      clear c0 c1 c2
      obtain ⟨z0, z1, z2⟩ := HA.out.own
      by_cases h2 : 2 < x.k
      · have R := hideIt (RNone.out (HOv.out h2))
        clear HS HCl HRe HbS HbC HbR HbN HOv HFw HFd RNone
        go_wp2
        go_roundw
        case rel =>
          obtain ⟨r1, r2, r3⟩ := R.out
          exact ⟨k + 1, by omega, by go_num, by rw [r1], by rw [r2], by rw [r3], HA.out.box, HA.out.bel⟩
        case measure => simp [intOf]; omega
      · have h2' : x.k ≤ 2 := by omega
        have HFw2 := hideIt (HFw.out h2)
        have HFn : Hid ((∀ j, j < k → findW l k j = false) → fwV l k = -1) := fwV_none
        have HFa : Hid (∀ m, m < k → findW l k m = true → (∀ j, m < j → j < k → findW l k j = false) → fwV l k = (stZ l m).p) := fun m => fwV_at
        clear HOv HFw
        generalize fwV l k = fv at HFw2 HFn HFa
        go_upto_block 2 with fail
        go_cut [11] (fun v wx => v = .int .i64 fv ∧ RfAt w l (some ⟨b, off, none⟩) cap Z x wx)
        case first =>
          go_wp2
          go_loopw [11, 12] (fun v i wr => ∃ m : Nat, m ≤ k ∧ i = .int .i64 ((m : Int) - 1) ∧ RfAt w l (some ⟨b, off, none⟩) cap Z x wr ∧ ((v = .int .i64 (-1) ∧ ∀ j, m ≤ j → j < k → findW l k j = false) ∨ (v = .int .i64 fv ∧ 0 ≤ fv))) (fun _ i _ => (intOf i + 1).toNat)
          case atStart => exact ⟨k, Nat.le_refl _, rfl, HA.out, .inl ⟨rfl, fun j h1 h2 => absurd h1 (by omega)⟩⟩
          case round =>
            clear HA z0 z1 z2
            obtain ⟨m, hm, rfl, hra, hcase⟩ := hrel
            have HR := hideIt hra
            clear hra
            rcases hcase with ⟨rfl, hno⟩ | ⟨rfl, h0⟩
            · have HNo := hideIt hno
              clear hno
              cases m with
              | zero =>
                obtain rfl := HFn.out fun j hj => HNo.out j (Nat.zero_le _) hj
                go_wp2
                go_meet
                exact ⟨rfl, HR.out⟩
              | succ m =>
                have hml : m < l.length := by omega
                obtain ⟨c0, c1, c2⟩ := (HSt.out m hml).below hlt HR.out.bel
                have htm := HOk.out.tx hml
                have HFm := hideIt (HFd.out m)
                have HGo : Hid (goB l m (k - m) = decide (endK l 4 (stZ l m).p < k)) := goB_all HOk.out (by omega) (by omega)
                have HGs : Hid (∀ j, goB l m (j + 1) = (goB l m j || ((stZ l (m + j)).p == (stZ l m).p && (stZ l (m + j)).k == 4))) := goB_succ l m
                have HAm := hideIt (HFa.out m (by omega))
                have hmi : ((m + 1 : Nat) : Int) - 1 = (m : Int) := by omega
                have hml' : (m : Int) < l.length := by omega
                have hmk' : (m : Int) ≤ k := by omega
                rw [hmi]
                rw [stZ_at hml] at htm HFm HGo HGs HAm
                have HY0 : Hid (∀ W, Below w.heap.size w W → W.cell? ⟨b, off + m * 3, none⟩ = some (.int .i64 l[m].p)) := fun W hW => ((HSt.out m hml).below hlt hW).1
                generalize l[m] = y at c0 c1 c2 htm HFm HGo HGs HAm HY0
                have RN : Hid (findW l k m = false → ∀ j, m ≤ j → j < k → findW l k j = false) := fun h j h1 h2 => by
                  by_cases e : j = m
                  · subst e; exact h
                  · exact HNo.out j (by omega) h2
                have RY : Hid (findW l k m = true → fv = y.p) := fun h => HAm.out h fun j h1 h2 => HNo.out j (by omega) h2
                clear HNo HAm
                generalize findW l k m = fm at HFm RN RY
                have HRn : Hid (∀ n, RfAt w l (some ⟨b, off, none⟩) cap Z x (wr.drewN n)) := fun n => HR.out.below (below_drewN (Below.refl _ _) n)
                have bx := HR.out.box
                obtain ⟨z0, z1, z2⟩ := HR.out.own
                go_upto_region 11 with fail
                by_cases g1 : y.k = 2
                · have g1' : (y.k != 2) = false := by simp [g1]
                  have g1'' : (y.k == 2) = true := by simp [g1]
                  by_cases g2 : y.m = x.m
                  · have g2' : (y.m != x.m) = false := by simp [g2]
                    have g2'' : (y.m == x.m) = true := by simp [g2]
                    have HF2 : Hid (fm = !decide (endK l 4 y.p < k)) := by rw [HFm.out, g1'', g2'']; rfl
                    clear g1 g1'' g2 g2'' HFm
                    go_quiet (fail)
                    rename_i nq
                    have HR2 := hideIt (HRn.out nq)
                    generalize wr.drewN nq = W2 at HR2 ⊢
                    clear HR HRn bx z0 z1 z2 c0 c1 c2
                    have bx := HR2.out.box
                    have hcm : ¬ cap = m := by omega
                    have hkc : (k : Int) ≤ cap := by omega
                    obtain ⟨d, hd⟩ : ∃ d, k - m = d := ⟨_, rfl⟩
                    rw [hd] at HGo
                    have hdk : m + d = k := by omega
                    go_wp2
                    go_loopw [13, 58] (fun g i wi => ∃ j : Nat, j ≤ d ∧ i = .int .i64 j ∧ g = .bool (goB l m j) ∧ RfAt w l (some ⟨b, off, none⟩) cap Z x wi) (fun _ i _ => d - (intOf i).toNat)
                    case atStart => exact ⟨0, Nat.zero_le _, rfl, rfl, HR2.out⟩
                    case round =>
                      clear HR2 bx
                      obtain ⟨j, hj, rfl, rfl, hra⟩ := hrel
                      have HR2 := hideIt hra
                      clear hra
                      by_cases hjd : j < d
                      · have hmj : m + j < l.length := by omega
                        obtain ⟨c0, c1, c2⟩ := (HSt.out (m + j) hmj).below hlt HR2.out.bel
                        rw [Nat.add_mul, ← Nat.add_assoc] at c0 c1 c2
                        have HGj := hideIt (HGs.out j)
                        rw [stZ_at hmj] at HGj
                        generalize l[m + j] = q at c0 c1 c2 HGj
                        have hjd' : (j : Int) < d := by omega
                        have HR3 := hideIt (HR2.out.below (belA (Below.refl _ _) (.cells #[.int .i64 q.p, .int .i64 q.k, .int .i64 q.m] 62)))
                        have d0 : (wr.alloc (.cells #[.int .i64 q.p, .int .i64 q.k, .int .i64 q.m] 62)).cell? ⟨wr.heap.size, 0, none⟩ = some (.int .i64 q.p) := by simp
                        have d1 : (wr.alloc (.cells #[.int .i64 q.p, .int .i64 q.k, .int .i64 q.m] 62)).cell? ⟨wr.heap.size, 1, none⟩ = some (.int .i64 q.k) := by simp
                        have y0 := HY0.out _ HR3.out.bel
                        have bx := HR3.out.box
                        generalize goB l m j = gb at HGj ⊢
                        go_upto_region 16 with fail
                        generalize wr.alloc _ = W3 at HR3 d0 d1 y0 bx ⊢
                        have HR3n : Hid (∀ n, RfAt w l (some ⟨b, off, none⟩) cap Z x (W3.drewN n)) := fun n => HR3.out.below (below_drewN (Below.refl _ _) n)
                        generalize wr.heap.size = Z3 at d0 d1 ⊢
                        clear c0 c1 c2 HR3
                        cases gb
                        · rw [Bool.false_or] at HGj
                          by_cases e1 : q.p = y.p
                          · have e1' : (q.p == y.p) = true := by simp [e1]
                            rw [e1', Bool.true_and] at HGj
                            obtain ⟨kb, hkb⟩ : ∃ kb, (q.k == 4) = kb := ⟨_, rfl⟩
                            rw [hkb] at HGj
                            clear e1
                            go_quiet (fail)
                            go_wp2
                            go_roundw
                            case rel => exact ⟨j + 1, by omega, by go_num, by rw [HGj.out], HR3n.out _⟩
                            case measure => simp [intOf]; omega
                          · have e1' : (q.p == y.p) = false := by simp [e1]
                            rw [e1', Bool.false_and] at HGj
                            clear e1
                            go_quiet (fail)
                            go_wp2
                            go_roundw
                            case rel => exact ⟨j + 1, by omega, by go_num, by rw [HGj.out], HR3n.out _⟩
                            case measure => simp [intOf]; omega
                        · rw [Bool.true_or] at HGj
                          go_quiet (fail)
                          go_wp2
                          go_roundw
                          case rel => exact ⟨j + 1, by omega, by go_num, by rw [HGj.out], HR3n.out _⟩
                          case measure => simp [intOf]; omega
                      · obtain rfl : j = d := by omega
                        rw [← HGo.out] at HF2
                        have bx := HR2.out.box
                        have y0 := HY0.out _ HR2.out.bel
                        clear HGo HGs
                        generalize goB l m j = gb at HF2 ⊢
                        cases gb
                        · have hfv := RY.out HF2.out
                          have R := hideIt hfv
                          clear HF2 RN RY hfv
                          go_wp2
                          go_roundw
                          case rel => exact ⟨m, by omega, by go_num, HR2.out, .inr ⟨by rw [R.out], by rw [R.out]; exact htm.1⟩⟩
                          case measure => simp [intOf]
                        · have R := hideIt (RN.out HF2.out)
                          clear HF2 RN RY
                          go_wp2
                          go_roundw
                          case rel => exact ⟨m, by omega, by go_num, HR2.out, .inl ⟨rfl, R.out⟩⟩
                          case measure => simp [intOf]
                  · have g2' : (y.m != x.m) = true := by simp [g2]
                    have g2'' : (y.m == x.m) = false := by simp [g2]
                    have R := hideIt (RN.out (by rw [HFm.out, g2'']; simp))
                    clear HFm RN RY g1 g2 g2''
                    go_quiet (fail)
                    go_wp2
                    go_roundw
                    case rel => exact ⟨m, by omega, rfl, HRn.out _, .inl ⟨rfl, R.out⟩⟩
                    case measure => simp [intOf]
                · have g1' : (y.k != 2) = true := by simp [g1]
                  have g1'' : (y.k == 2) = false := by simp [g1]
                  have R := hideIt (RN.out (by rw [HFm.out, g1'']; simp))
                  clear HFm RN RY g1 g1''
                  go_quiet (fail)
                  go_wp2
                  go_roundw
                  case rel => exact ⟨m, by omega, rfl, HRn.out _, .inl ⟨rfl, R.out⟩⟩
                  case measure => simp [intOf]
            · have h0' : ¬ fv < 0 := by omega
              cases m with
              | zero =>
                go_wp2
                go_meet
                exact ⟨rfl, HR.out⟩
              | succ m =>
                have hmi : ((m + 1 : Nat) : Int) - 1 = (m : Int) := by omega
                rw [hmi]
                go_wp2
                go_meet
                exact ⟨rfl, HR.out⟩
        case rest =>
          rename World => wc
          clear HA z0 z1 z2
          obtain ⟨rfl, hra⟩ := hcut
          have HA := hideIt hra
          clear hra HFn HFa HFd HSt
          obtain ⟨z0, z1, z2⟩ := HA.out.own
          rcases HFw2.out with ⟨rfl, ho⟩ | ⟨hf0, hf7, ho⟩
          · have R := hideIt (RNone.out ho)
            clear HS HCl HRe HbS HbC HbR HbN RNone HFw2 ho
            go_wp2
            go_roundw
            case rel =>
              obtain ⟨r1, r2, r3⟩ := R.out
              exact ⟨k + 1, by omega, by go_num, by rw [r1], by rw [r2], by rw [r3], HA.out.box, HA.out.bel⟩
            case measure => simp [intOf]; omega
          · clear HFw2
            have hfn : ¬ fv < 0 := by omega
            by_cases g1 : fv = x.p
            · have R := hideIt (RNone.out (by rw [ho, if_pos (.inl g1)]))
              have g1' : (fv == x.p) = true := by simp [g1]
              clear HS HCl HRe HbS HbC HbR HbN RNone ho g1
              go_wp2
              go_roundw
              case rel =>
                obtain ⟨r1, r2, r3⟩ := R.out
                exact ⟨k + 1, by omega, by go_num, by rw [r1], by rw [r2], by rw [r3], HA.out.box, HA.out.bel⟩
              case measure => simp [intOf]; omega
            · have g1' : (fv == x.p) = false := by simp [g1]
              have HCo := hideIt (over_any l (some ⟨b, off, none⟩) cap w.heap.size fv wc (by omega) (HL.out.below HA.out.bel) HA.out.box)
              have HOp : Hid (openW l k = if ovN l fv < k then none else some fv) := by
                show openW l k = _
                rw [ho]
                by_cases c : ovN l fv < k
                · rw [if_pos c, if_pos (.inr c)]
                · rw [if_neg c, if_neg fun h => h.elim g1 c]
              clear ho g1
              go_wp2_with fail
              refine HCo.out.mono ?_
              clear HCo z0 z1 z2
              rintro e w2 ⟨rfl, hb2⟩
              have HA2 := hideIt (HA.out.below hb2)
              clear HA hb2
              obtain ⟨z0, z1, z2⟩ := HA2.out.own
              by_cases g2 : ovN l fv < k
              · have R := hideIt (RNone.out (by rw [HOp.out, if_pos g2]))
                have g2' : ((ovN l fv : Nat) : Int) < k := by omega
                clear HS HCl HRe HbS HbC HbR HbN RNone HOp
                go_wp2
                go_roundw
                case rel =>
                  obtain ⟨r1, r2, r3⟩ := R.out
                  exact ⟨k + 1, by omega, by go_num, by rw [r1], by rw [r2], by rw [r3], HA2.out.box, HA2.out.bel⟩
                case measure => simp [intOf]; omega
              · have g2' : ¬ ((ovN l fv : Nat) : Int) < k := by omega
                rw [if_neg g2] at HOp
                have HbS2 : Hid (noneB (badS l) (k + 1) = false) := by
                  show _ = _
                  rw [HS.out, HbS.out, HOp.out]; simp
                have HbC2 : Hid (badC l k = (x.k == 1)) := by
                  show _ = _
                  rw [HbC.out, HOp.out]; rfl
                have HbR2 := hideIt (HbR.out fv HOp.out)
                have HDr := hideIt (doc_rec HOk.out htx ⟨hf0, hf7⟩)
                clear HS HbS HbC HbR HbN RNone HOp
                by_cases g3 : x.k = 2
                · have R : Hid (noneB (badR l) (k + 1) = noneB (badR l) k ∧ noneB (badC l) (k + 1) = noneB (badC l) k) := by
                    show _ ∧ _
                    rw [HCl.out, HRe.out, HbC2.out, HbR2.out, g3]; simp
                  rw [g3] at z1
                  clear HCl HRe HbC2 HbR2 HDr
                  go_wp2
                  go_roundw
                  case rel =>
                    obtain ⟨r1, r2⟩ := R.out
                    exact ⟨k + 1, by omega, by go_num, by rw [r1], by rw [r2], by rw [HbS2.out], HA2.out.box, HA2.out.bel⟩
                  case measure => simp [intOf]; omega
                · have g3' : (x.k == 2) = false := by simp [g3]
                  have g4 : x.k = 1 := by omega
                  have HCl2 : Hid (noneB (badC l) (k + 1) = false) := by
                    show _ = _
                    rw [HCl.out, HbC2.out, g4]; simp
                  have HRe2 : Hid (noneB (badR l) (k + 1) = (noneB (badR l) k && !(commB l x.p && (!commB l fv || decide (ovN l x.p < ovN l fv))))) := by
                    show _ = _
                    rw [HRe.out, HbR2.out, HDr.out, g4]; simp
                  clear HCl HRe HbC2 HbR2 HDr g4
                  have HC1 : Hid (∀ W, RfAt w l (some ⟨b, off, none⟩) cap Z x W → Calls Tryd.prog 27 #[.slice (some ⟨b, off, none⟩) l.length cap, .int .i64 x.p] W fun e w' => e = .returned (.bool (commB l x.p)) ∧ Below W.heap.size W w') := fun W h => commits_any l _ cap x.p W (by omega) (HL.out.below h.bel)
                  have HC2 : Hid (∀ W, RfAt w l (some ⟨b, off, none⟩) cap Z x W → Calls Tryd.prog 27 #[.slice (some ⟨b, off, none⟩) l.length cap, .int .i64 fv] W fun e w' => e = .returned (.bool (commB l fv)) ∧ Below W.heap.size W w') := fun W h => commits_any l _ cap fv W (by omega) (HL.out.below h.bel)
                  have HO1 : Hid (∀ W, RfAt w l (some ⟨b, off, none⟩) cap Z x W → Calls Tryd.prog 43 #[.int .i64 x.p, .pointer (some ⟨w.heap.size, 0, none⟩)] W fun e w' => e = .returned (.int .i64 (ovN l x.p : Nat)) ∧ Below W.heap.size W w') := fun W h => over_any l _ cap _ x.p W (by omega) (HL.out.below h.bel) h.box
                  have HO2 : Hid (∀ W, RfAt w l (some ⟨b, off, none⟩) cap Z x W → Calls Tryd.prog 43 #[.int .i64 fv, .pointer (some ⟨w.heap.size, 0, none⟩)] W fun e w' => e = .returned (.int .i64 (ovN l fv : Nat)) ∧ Below W.heap.size W w') := fun W h => over_any l _ cap _ fv W (by omega) (HL.out.below h.bel) h.box
                  go_upto_region 24 with fail
                  clear z0 z1 z2 g2 g2'
                  generalize commB l x.p = cp at HC1 HRe2
                  generalize commB l fv = ct at HC2 HRe2
                  generalize ovN l x.p = op at HO1 HRe2
                  generalize ovN l fv = ot at HO2 HRe2
                  generalize noneB (badR l) k = rr at HRe2 ⊢
                  cases cp
                  · rw [Bool.false_and, Bool.not_false, Bool.and_true] at HRe2
                    refine wp_region_held_drew (S := (fun w' => RfAt w l (some ⟨b, off, none⟩) cap Z x w')) (by kernel_rfl) (HA2.out.below (belDr _)) (fun hHeld => ?_)
                    refine wpAnyH_take (i := 0) (v := ?_) rfl (by kernel_rfl) (by kernel_rfl) (by kernel_rfl) (fun _ _ _ h => h) (Or.inl ⟨by rfl, ?_⟩) (by assumption) ?_
                    rotate_left 1
                    · intro wz ⟨b0, ⟨z0, z1, z2⟩, _, _⟩
                      go_simp
                      all_goals with_reducible rfl
                    simp only [Act.put, List.setIfInBounds_toArray, List.set_cons_zero, List.set_cons_succ, List.getElem_toArray, List.getElem_cons_zero]
                    refine wpAnyH_take (i := 1) (v := ?_) rfl (by kernel_rfl) (by kernel_rfl) (by kernel_rfl) (fun _ _ _ h => h) (Or.inl ⟨by rfl, ?_⟩) (by assumption) ?_
                    rotate_left 1
                    · intro wz ⟨b0, ⟨z0, z1, z2⟩, _, _⟩
                      go_simp
                      all_goals with_reducible rfl
                    simp only [Act.put, List.setIfInBounds_toArray, List.set_cons_zero, List.set_cons_succ, List.getElem_toArray, List.getElem_cons_zero, List.getElem_cons_succ]
                    refine wpAnyH_take (i := 2) (v := ?_) rfl (by kernel_rfl) (by kernel_rfl) (by kernel_rfl) (fun _ _ _ h => h) (Or.inl ⟨by rfl, ?_⟩) (by assumption) ?_
                    rotate_left 1
                    · intro wz ⟨b0, ⟨z0, z1, z2⟩, _, _⟩
                      go_simp
                      all_goals with_reducible rfl
                    simp only [Act.put, List.setIfInBounds_toArray, List.set_cons_zero, List.set_cons_succ, List.getElem_toArray, List.getElem_cons_zero, List.getElem_cons_succ]
                    refine wpAnyH_ready (rs := [3]) (by kernel_rfl) (by simp) (AllReadyH.cons rfl (fun K hK => ?_) AllReadyH.nil)
                    go_simp
                    refine (HC1.out _ hHeld).mono ?_
                    rintro e w2 ⟨rfl, hb2⟩
                    refine hK.out _ _ ?_ (fun hHeld => ?_)
                    · exact hHeld.below hb2
                    clear hK K hb2
                    refine wpAnyH_take (i := 4) (v := ?_) rfl (by kernel_rfl) (by kernel_rfl) (by kernel_rfl) (fun _ _ _ h => h) (Or.inl ⟨by rfl, ?_⟩) (by assumption) ?_
                    rotate_left 1
                    · intro wz ⟨b0, ⟨z0, z1, z2⟩, _, _⟩
                      go_simp
                      all_goals with_reducible rfl
                    simp only [Act.put, List.setIfInBounds_toArray, List.set_cons_zero, List.set_cons_succ, List.getElem_toArray, List.getElem_cons_zero, List.getElem_cons_succ]
                    refine wpAnyH_take (i := 5) (v := undef) rfl (by kernel_rfl) (by kernel_rfl) (by kernel_rfl) (fun _ _ _ h => h) (Or.inr ⟨by rfl, rfl⟩) (by assumption) ?_
                    simp only [Act.put, List.setIfInBounds_toArray, List.set_cons_zero, List.set_cons_succ, List.getElem_toArray, List.getElem_cons_zero, List.getElem_cons_succ]
                    refine wpAnyH_take (i := 6) (v := undef) rfl (by kernel_rfl) (by kernel_rfl) (by kernel_rfl) (fun _ _ _ h => h) (Or.inr ⟨by rfl, rfl⟩) (by assumption) ?_
                    simp only [Act.put, List.setIfInBounds_toArray, List.set_cons_zero, List.set_cons_succ, List.getElem_toArray, List.getElem_cons_zero, List.getElem_cons_succ]
                    refine wpAnyH_take (i := 7) (v := undef) rfl (by kernel_rfl) (by kernel_rfl) (by kernel_rfl) (fun _ _ _ h => h) (Or.inr ⟨by rfl, rfl⟩) (by assumption) ?_
                    simp only [Act.put, List.setIfInBounds_toArray, List.set_cons_zero, List.set_cons_succ, List.getElem_toArray, List.getElem_cons_zero, List.getElem_cons_succ]
                    refine wpAnyH_take (i := 8) (v := undef) rfl (by kernel_rfl) (by kernel_rfl) (by kernel_rfl) (fun _ _ _ h => h) (Or.inr ⟨by rfl, rfl⟩) (by assumption) ?_
                    simp only [Act.put, List.setIfInBounds_toArray, List.set_cons_zero, List.set_cons_succ, List.getElem_toArray, List.getElem_cons_zero, List.getElem_cons_succ]
                    refine wpAnyH_take (i := 9) (v := undef) rfl (by kernel_rfl) (by kernel_rfl) (by kernel_rfl) (fun _ _ _ h => h) (Or.inr ⟨by rfl, rfl⟩) (by assumption) ?_
                    simp only [Act.put, List.setIfInBounds_toArray, List.set_cons_zero, List.set_cons_succ, List.getElem_toArray, List.getElem_cons_zero, List.getElem_cons_succ]
                    refine wpAnyH_take (i := 10) (v := undef) rfl (by kernel_rfl) (by kernel_rfl) (by kernel_rfl) (fun _ _ _ h => h) (Or.inr ⟨by rfl, rfl⟩) (by assumption) ?_
                    simp only [Act.put, List.setIfInBounds_toArray, List.set_cons_zero, List.set_cons_succ, List.getElem_toArray, List.getElem_cons_zero, List.getElem_cons_succ]
                    refine wpAnyH_take (i := 11) (v := undef) rfl (by kernel_rfl) (by kernel_rfl) (by kernel_rfl) (fun _ _ _ h => h) (Or.inr ⟨by rfl, rfl⟩) (by assumption) ?_
                    simp only [Act.put, List.setIfInBounds_toArray, List.set_cons_zero, List.set_cons_succ, List.getElem_toArray, List.getElem_cons_zero, List.getElem_cons_succ]
                    refine wpAnyH_take (i := 12) (v := undef) rfl (by kernel_rfl) (by kernel_rfl) (by kernel_rfl) (fun _ _ _ h => h) (Or.inr ⟨by rfl, rfl⟩) (by assumption) ?_
                    simp only [Act.put, List.setIfInBounds_toArray, List.set_cons_zero, List.set_cons_succ, List.getElem_toArray, List.getElem_cons_zero, List.getElem_cons_succ]
                    refine wpAnyH_take (i := 13) (v := undef) rfl (by kernel_rfl) (by kernel_rfl) (by kernel_rfl) (fun _ _ _ h => h) (Or.inr ⟨by rfl, rfl⟩) (by assumption) ?_
                    simp only [Act.put, List.setIfInBounds_toArray, List.set_cons_zero, List.set_cons_succ, List.getElem_toArray, List.getElem_cons_zero, List.getElem_cons_succ]
                    refine wpAnyH_take (i := 14) (v := undef) rfl (by kernel_rfl) (by kernel_rfl) (by kernel_rfl) (fun _ _ _ h => h) (Or.inr ⟨by rfl, rfl⟩) (by assumption) ?_
                    simp only [Act.put, List.setIfInBounds_toArray, List.set_cons_zero, List.set_cons_succ, List.getElem_toArray, List.getElem_cons_zero, List.getElem_cons_succ]
                    refine wpAnyH_take (i := 15) (v := undef) rfl (by kernel_rfl) (by kernel_rfl) (by kernel_rfl) (fun _ _ _ h => h) (Or.inr ⟨by rfl, rfl⟩) (by assumption) ?_
                    simp only [Act.put, List.setIfInBounds_toArray, List.set_cons_zero, List.set_cons_succ, List.getElem_toArray, List.getElem_cons_zero, List.getElem_cons_succ]
                    refine wpAnyH_take (i := 16) (v := undef) rfl (by kernel_rfl) (by kernel_rfl) (by kernel_rfl) (fun _ _ _ h => h) (Or.inr ⟨by rfl, rfl⟩) (by assumption) ?_
                    simp only [Act.put, List.setIfInBounds_toArray, List.set_cons_zero, List.set_cons_succ, List.getElem_toArray, List.getElem_cons_zero, List.getElem_cons_succ]
                    refine wpAnyH_take (i := 17) (v := undef) rfl (by kernel_rfl) (by kernel_rfl) (by kernel_rfl) (fun _ _ _ h => h) (Or.inr ⟨by rfl, rfl⟩) (by assumption) ?_
                    simp only [Act.put, List.setIfInBounds_toArray, List.set_cons_zero, List.set_cons_succ, List.getElem_toArray, List.getElem_cons_zero, List.getElem_cons_succ]
                    refine wpAnyH_take (i := 18) (v := undef) rfl (by kernel_rfl) (by kernel_rfl) (by kernel_rfl) (fun _ _ _ h => h) (Or.inr ⟨by rfl, rfl⟩) (by assumption) ?_
                    simp only [Act.put, List.setIfInBounds_toArray, List.set_cons_zero, List.set_cons_succ, List.getElem_toArray, List.getElem_cons_zero, List.getElem_cons_succ]
                    refine wpAnyH_take (i := 19) (v := ?_) rfl (by kernel_rfl) (by kernel_rfl) (by kernel_rfl) (fun _ _ _ h => h) (Or.inl ⟨by rfl, ?_⟩) (by assumption) ?_
                    rotate_left 1
                    · intro wz ⟨b0, ⟨z0, z1, z2⟩, _, _⟩
                      go_simp
                      all_goals with_reducible rfl
                    simp only [Act.put, List.setIfInBounds_toArray, List.set_cons_zero, List.set_cons_succ, List.getElem_toArray, List.getElem_cons_zero, List.getElem_cons_succ]
                    refine wpAnyH_done (by kernel_rfl) ?_ _
                    go_wp2
                    go_roundw
                    case rel => exact ⟨k + 1, by omega, by go_num, by rw [HRe2.out], by rw [HCl2.out], by rw [HbS2.out], (by assumption : RfAt w l (some ⟨b, off, none⟩) cap Z x _).box, (by assumption : RfAt w l (some ⟨b, off, none⟩) cap Z x _).bel⟩
                    case measure => simp [intOf]; omega
                  · cases ct
                    · rw [Bool.not_false, Bool.true_or, Bool.true_and, Bool.not_true, Bool.and_false] at HRe2
                      refine wp_region_held_drew (S := (fun w' => RfAt w l (some ⟨b, off, none⟩) cap Z x w')) (by kernel_rfl) (HA2.out.below (belDr _)) (fun hHeld => ?_)
                      refine wpAnyH_take (i := 0) (v := ?_) rfl (by kernel_rfl) (by kernel_rfl) (by kernel_rfl) (fun _ _ _ h => h) (Or.inl ⟨by rfl, ?_⟩) (by assumption) ?_
                      rotate_left 1
                      · intro wz ⟨b0, ⟨z0, z1, z2⟩, _, _⟩
                        go_simp
                        all_goals with_reducible rfl
                      simp only [Act.put, List.setIfInBounds_toArray, List.set_cons_zero, List.set_cons_succ, List.getElem_toArray, List.getElem_cons_zero]
                      refine wpAnyH_take (i := 1) (v := ?_) rfl (by kernel_rfl) (by kernel_rfl) (by kernel_rfl) (fun _ _ _ h => h) (Or.inl ⟨by rfl, ?_⟩) (by assumption) ?_
                      rotate_left 1
                      · intro wz ⟨b0, ⟨z0, z1, z2⟩, _, _⟩
                        go_simp
                        all_goals with_reducible rfl
                      simp only [Act.put, List.setIfInBounds_toArray, List.set_cons_zero, List.set_cons_succ, List.getElem_toArray, List.getElem_cons_zero, List.getElem_cons_succ]
                      refine wpAnyH_take (i := 2) (v := ?_) rfl (by kernel_rfl) (by kernel_rfl) (by kernel_rfl) (fun _ _ _ h => h) (Or.inl ⟨by rfl, ?_⟩) (by assumption) ?_
                      rotate_left 1
                      · intro wz ⟨b0, ⟨z0, z1, z2⟩, _, _⟩
                        go_simp
                        all_goals with_reducible rfl
                      simp only [Act.put, List.setIfInBounds_toArray, List.set_cons_zero, List.set_cons_succ, List.getElem_toArray, List.getElem_cons_zero, List.getElem_cons_succ]
                      refine wpAnyH_ready (rs := [3]) (by kernel_rfl) (by simp) (AllReadyH.cons rfl (fun K hK => ?_) AllReadyH.nil)
                      go_simp
                      refine (HC1.out _ hHeld).mono ?_
                      rintro e w2 ⟨rfl, hb2⟩
                      refine hK.out _ _ ?_ (fun hHeld => ?_)
                      · exact hHeld.below hb2
                      clear hK K hb2
                      refine wpAnyH_take (i := 4) (v := ?_) rfl (by kernel_rfl) (by kernel_rfl) (by kernel_rfl) (fun _ _ _ h => h) (Or.inl ⟨by rfl, ?_⟩) (by assumption) ?_
                      rotate_left 1
                      · intro wz ⟨b0, ⟨z0, z1, z2⟩, _, _⟩
                        go_simp
                        all_goals with_reducible rfl
                      simp only [Act.put, List.setIfInBounds_toArray, List.set_cons_zero, List.set_cons_succ, List.getElem_toArray, List.getElem_cons_zero, List.getElem_cons_succ]
                      refine wpAnyH_take (i := 5) (v := ?_) rfl (by kernel_rfl) (by kernel_rfl) (by kernel_rfl) (fun _ _ _ h => h) (Or.inl ⟨by rfl, ?_⟩) (by assumption) ?_
                      rotate_left 1
                      · intro wz ⟨b0, ⟨z0, z1, z2⟩, _, _⟩
                        go_simp
                        all_goals with_reducible rfl
                      simp only [Act.put, List.setIfInBounds_toArray, List.set_cons_zero, List.set_cons_succ, List.getElem_toArray, List.getElem_cons_zero, List.getElem_cons_succ]
                      refine wpAnyH_take (i := 6) (v := ?_) rfl (by kernel_rfl) (by kernel_rfl) (by kernel_rfl) (fun _ _ _ h => h) (Or.inl ⟨by rfl, ?_⟩) (by assumption) ?_
                      rotate_left 1
                      · intro wz ⟨b0, ⟨z0, z1, z2⟩, _, _⟩
                        go_simp
                        all_goals with_reducible rfl
                      simp only [Act.put, List.setIfInBounds_toArray, List.set_cons_zero, List.set_cons_succ, List.getElem_toArray, List.getElem_cons_zero, List.getElem_cons_succ]
                      refine wpAnyH_ready (rs := [7]) (by kernel_rfl) (by simp) (AllReadyH.cons rfl (fun K hK => ?_) AllReadyH.nil)
                      go_simp
                      refine (HC2.out _ hHeld).mono ?_
                      rintro e w2 ⟨rfl, hb2⟩
                      refine hK.out _ _ ?_ (fun hHeld => ?_)
                      · exact hHeld.below hb2
                      clear hK K hb2
                      refine wpAnyH_take (i := 8) (v := ?_) rfl (by kernel_rfl) (by kernel_rfl) (by kernel_rfl) (fun _ _ _ h => h) (Or.inl ⟨by rfl, ?_⟩) (by assumption) ?_
                      rotate_left 1
                      · intro wz ⟨b0, ⟨z0, z1, z2⟩, _, _⟩
                        go_simp
                        all_goals with_reducible rfl
                      simp only [Act.put, List.setIfInBounds_toArray, List.set_cons_zero, List.set_cons_succ, List.getElem_toArray, List.getElem_cons_zero, List.getElem_cons_succ]
                      refine wpAnyH_take (i := 9) (v := ?_) rfl (by kernel_rfl) (by kernel_rfl) (by kernel_rfl) (fun _ _ _ h => h) (Or.inl ⟨by rfl, ?_⟩) (by assumption) ?_
                      rotate_left 1
                      · intro wz ⟨b0, ⟨z0, z1, z2⟩, _, _⟩
                        go_simp
                        all_goals with_reducible rfl
                      simp only [Act.put, List.setIfInBounds_toArray, List.set_cons_zero, List.set_cons_succ, List.getElem_toArray, List.getElem_cons_zero, List.getElem_cons_succ]
                      refine wpAnyH_take (i := 10) (v := undef) rfl (by kernel_rfl) (by kernel_rfl) (by kernel_rfl) (fun _ _ _ h => h) (Or.inr ⟨by rfl, rfl⟩) (by assumption) ?_
                      simp only [Act.put, List.setIfInBounds_toArray, List.set_cons_zero, List.set_cons_succ, List.getElem_toArray, List.getElem_cons_zero, List.getElem_cons_succ]
                      refine wpAnyH_take (i := 11) (v := undef) rfl (by kernel_rfl) (by kernel_rfl) (by kernel_rfl) (fun _ _ _ h => h) (Or.inr ⟨by rfl, rfl⟩) (by assumption) ?_
                      simp only [Act.put, List.setIfInBounds_toArray, List.set_cons_zero, List.set_cons_succ, List.getElem_toArray, List.getElem_cons_zero, List.getElem_cons_succ]
                      refine wpAnyH_take (i := 12) (v := undef) rfl (by kernel_rfl) (by kernel_rfl) (by kernel_rfl) (fun _ _ _ h => h) (Or.inr ⟨by rfl, rfl⟩) (by assumption) ?_
                      simp only [Act.put, List.setIfInBounds_toArray, List.set_cons_zero, List.set_cons_succ, List.getElem_toArray, List.getElem_cons_zero, List.getElem_cons_succ]
                      refine wpAnyH_take (i := 13) (v := undef) rfl (by kernel_rfl) (by kernel_rfl) (by kernel_rfl) (fun _ _ _ h => h) (Or.inr ⟨by rfl, rfl⟩) (by assumption) ?_
                      simp only [Act.put, List.setIfInBounds_toArray, List.set_cons_zero, List.set_cons_succ, List.getElem_toArray, List.getElem_cons_zero, List.getElem_cons_succ]
                      refine wpAnyH_take (i := 14) (v := undef) rfl (by kernel_rfl) (by kernel_rfl) (by kernel_rfl) (fun _ _ _ h => h) (Or.inr ⟨by rfl, rfl⟩) (by assumption) ?_
                      simp only [Act.put, List.setIfInBounds_toArray, List.set_cons_zero, List.set_cons_succ, List.getElem_toArray, List.getElem_cons_zero, List.getElem_cons_succ]
                      refine wpAnyH_take (i := 15) (v := undef) rfl (by kernel_rfl) (by kernel_rfl) (by kernel_rfl) (fun _ _ _ h => h) (Or.inr ⟨by rfl, rfl⟩) (by assumption) ?_
                      simp only [Act.put, List.setIfInBounds_toArray, List.set_cons_zero, List.set_cons_succ, List.getElem_toArray, List.getElem_cons_zero, List.getElem_cons_succ]
                      refine wpAnyH_take (i := 16) (v := undef) rfl (by kernel_rfl) (by kernel_rfl) (by kernel_rfl) (fun _ _ _ h => h) (Or.inr ⟨by rfl, rfl⟩) (by assumption) ?_
                      simp only [Act.put, List.setIfInBounds_toArray, List.set_cons_zero, List.set_cons_succ, List.getElem_toArray, List.getElem_cons_zero, List.getElem_cons_succ]
                      refine wpAnyH_take (i := 17) (v := undef) rfl (by kernel_rfl) (by kernel_rfl) (by kernel_rfl) (fun _ _ _ h => h) (Or.inr ⟨by rfl, rfl⟩) (by assumption) ?_
                      simp only [Act.put, List.setIfInBounds_toArray, List.set_cons_zero, List.set_cons_succ, List.getElem_toArray, List.getElem_cons_zero, List.getElem_cons_succ]
                      refine wpAnyH_take (i := 18) (v := ?_) rfl (by kernel_rfl) (by kernel_rfl) (by kernel_rfl) (fun _ _ _ h => h) (Or.inl ⟨by rfl, ?_⟩) (by assumption) ?_
                      rotate_left 1
                      · intro wz ⟨b0, ⟨z0, z1, z2⟩, _, _⟩
                        go_simp
                        all_goals with_reducible rfl
                      simp only [Act.put, List.setIfInBounds_toArray, List.set_cons_zero, List.set_cons_succ, List.getElem_toArray, List.getElem_cons_zero, List.getElem_cons_succ]
                      refine wpAnyH_take (i := 19) (v := ?_) rfl (by kernel_rfl) (by kernel_rfl) (by kernel_rfl) (fun _ _ _ h => h) (Or.inl ⟨by rfl, ?_⟩) (by assumption) ?_
                      rotate_left 1
                      · intro wz ⟨b0, ⟨z0, z1, z2⟩, _, _⟩
                        go_simp
                        all_goals with_reducible rfl
                      simp only [Act.put, List.setIfInBounds_toArray, List.set_cons_zero, List.set_cons_succ, List.getElem_toArray, List.getElem_cons_zero, List.getElem_cons_succ]
                      refine wpAnyH_done (by kernel_rfl) ?_ _
                      go_wp2
                      go_roundw
                      case rel => exact ⟨k + 1, by omega, by go_num, by rw [HRe2.out], by rw [HCl2.out], by rw [HbS2.out], (by assumption : RfAt w l (some ⟨b, off, none⟩) cap Z x _).box, (by assumption : RfAt w l (some ⟨b, off, none⟩) cap Z x _).bel⟩
                      case measure => simp [intOf]; omega
                    · rw [Bool.not_true, Bool.false_or, Bool.true_and] at HRe2
                      by_cases g5 : op < ot
                      · have g5' : decide ((op : Int) < (ot : Int)) = true := by simp; omega
                        rw [decide_eq_true g5, Bool.not_true, Bool.and_false] at HRe2
                        refine wp_region_held_drew (S := (fun w' => RfAt w l (some ⟨b, off, none⟩) cap Z x w')) (by kernel_rfl) (HA2.out.below (belDr _)) (fun hHeld => ?_)
                        refine wpAnyH_take (i := 0) (v := ?_) rfl (by kernel_rfl) (by kernel_rfl) (by kernel_rfl) (fun _ _ _ h => h) (Or.inl ⟨by rfl, ?_⟩) (by assumption) ?_
                        rotate_left 1
                        · intro wz ⟨b0, ⟨z0, z1, z2⟩, _, _⟩
                          go_simp
                          all_goals with_reducible rfl
                        simp only [Act.put, List.setIfInBounds_toArray, List.set_cons_zero, List.set_cons_succ, List.getElem_toArray, List.getElem_cons_zero]
                        refine wpAnyH_take (i := 1) (v := ?_) rfl (by kernel_rfl) (by kernel_rfl) (by kernel_rfl) (fun _ _ _ h => h) (Or.inl ⟨by rfl, ?_⟩) (by assumption) ?_
                        rotate_left 1
                        · intro wz ⟨b0, ⟨z0, z1, z2⟩, _, _⟩
                          go_simp
                          all_goals with_reducible rfl
                        simp only [Act.put, List.setIfInBounds_toArray, List.set_cons_zero, List.set_cons_succ, List.getElem_toArray, List.getElem_cons_zero, List.getElem_cons_succ]
                        refine wpAnyH_take (i := 2) (v := ?_) rfl (by kernel_rfl) (by kernel_rfl) (by kernel_rfl) (fun _ _ _ h => h) (Or.inl ⟨by rfl, ?_⟩) (by assumption) ?_
                        rotate_left 1
                        · intro wz ⟨b0, ⟨z0, z1, z2⟩, _, _⟩
                          go_simp
                          all_goals with_reducible rfl
                        simp only [Act.put, List.setIfInBounds_toArray, List.set_cons_zero, List.set_cons_succ, List.getElem_toArray, List.getElem_cons_zero, List.getElem_cons_succ]
                        refine wpAnyH_ready (rs := [3]) (by kernel_rfl) (by simp) (AllReadyH.cons rfl (fun K hK => ?_) AllReadyH.nil)
                        go_simp
                        refine (HC1.out _ hHeld).mono ?_
                        rintro e w2 ⟨rfl, hb2⟩
                        refine hK.out _ _ ?_ (fun hHeld => ?_)
                        · exact hHeld.below hb2
                        clear hK K hb2
                        refine wpAnyH_take (i := 4) (v := ?_) rfl (by kernel_rfl) (by kernel_rfl) (by kernel_rfl) (fun _ _ _ h => h) (Or.inl ⟨by rfl, ?_⟩) (by assumption) ?_
                        rotate_left 1
                        · intro wz ⟨b0, ⟨z0, z1, z2⟩, _, _⟩
                          go_simp
                          all_goals with_reducible rfl
                        simp only [Act.put, List.setIfInBounds_toArray, List.set_cons_zero, List.set_cons_succ, List.getElem_toArray, List.getElem_cons_zero, List.getElem_cons_succ]
                        refine wpAnyH_take (i := 5) (v := ?_) rfl (by kernel_rfl) (by kernel_rfl) (by kernel_rfl) (fun _ _ _ h => h) (Or.inl ⟨by rfl, ?_⟩) (by assumption) ?_
                        rotate_left 1
                        · intro wz ⟨b0, ⟨z0, z1, z2⟩, _, _⟩
                          go_simp
                          all_goals with_reducible rfl
                        simp only [Act.put, List.setIfInBounds_toArray, List.set_cons_zero, List.set_cons_succ, List.getElem_toArray, List.getElem_cons_zero, List.getElem_cons_succ]
                        refine wpAnyH_take (i := 6) (v := ?_) rfl (by kernel_rfl) (by kernel_rfl) (by kernel_rfl) (fun _ _ _ h => h) (Or.inl ⟨by rfl, ?_⟩) (by assumption) ?_
                        rotate_left 1
                        · intro wz ⟨b0, ⟨z0, z1, z2⟩, _, _⟩
                          go_simp
                          all_goals with_reducible rfl
                        simp only [Act.put, List.setIfInBounds_toArray, List.set_cons_zero, List.set_cons_succ, List.getElem_toArray, List.getElem_cons_zero, List.getElem_cons_succ]
                        refine wpAnyH_ready (rs := [7]) (by kernel_rfl) (by simp) (AllReadyH.cons rfl (fun K hK => ?_) AllReadyH.nil)
                        go_simp
                        refine (HC2.out _ hHeld).mono ?_
                        rintro e w2 ⟨rfl, hb2⟩
                        refine hK.out _ _ ?_ (fun hHeld => ?_)
                        · exact hHeld.below hb2
                        clear hK K hb2
                        refine wpAnyH_take (i := 8) (v := ?_) rfl (by kernel_rfl) (by kernel_rfl) (by kernel_rfl) (fun _ _ _ h => h) (Or.inl ⟨by rfl, ?_⟩) (by assumption) ?_
                        rotate_left 1
                        · intro wz ⟨b0, ⟨z0, z1, z2⟩, _, _⟩
                          go_simp
                          all_goals with_reducible rfl
                        simp only [Act.put, List.setIfInBounds_toArray, List.set_cons_zero, List.set_cons_succ, List.getElem_toArray, List.getElem_cons_zero, List.getElem_cons_succ]
                        refine wpAnyH_take (i := 9) (v := ?_) rfl (by kernel_rfl) (by kernel_rfl) (by kernel_rfl) (fun _ _ _ h => h) (Or.inl ⟨by rfl, ?_⟩) (by assumption) ?_
                        rotate_left 1
                        · intro wz ⟨b0, ⟨z0, z1, z2⟩, _, _⟩
                          go_simp
                          all_goals with_reducible rfl
                        simp only [Act.put, List.setIfInBounds_toArray, List.set_cons_zero, List.set_cons_succ, List.getElem_toArray, List.getElem_cons_zero, List.getElem_cons_succ]
                        refine wpAnyH_take (i := 10) (v := ?_) rfl (by kernel_rfl) (by kernel_rfl) (by kernel_rfl) (fun _ _ _ h => h) (Or.inl ⟨by rfl, ?_⟩) (by assumption) ?_
                        rotate_left 1
                        · intro wz ⟨b0, ⟨z0, z1, z2⟩, _, _⟩
                          go_simp
                          all_goals with_reducible rfl
                        simp only [Act.put, List.setIfInBounds_toArray, List.set_cons_zero, List.set_cons_succ, List.getElem_toArray, List.getElem_cons_zero, List.getElem_cons_succ]
                        refine wpAnyH_take (i := 11) (v := ?_) rfl (by kernel_rfl) (by kernel_rfl) (by kernel_rfl) (fun _ _ _ h => h) (Or.inl ⟨by rfl, ?_⟩) (by assumption) ?_
                        rotate_left 1
                        · intro wz ⟨b0, ⟨z0, z1, z2⟩, _, _⟩
                          go_simp
                          all_goals with_reducible rfl
                        simp only [Act.put, List.setIfInBounds_toArray, List.set_cons_zero, List.set_cons_succ, List.getElem_toArray, List.getElem_cons_zero, List.getElem_cons_succ]
                        refine wpAnyH_take (i := 13) (v := ?_) rfl (by kernel_rfl) (by kernel_rfl) (by kernel_rfl) (fun _ _ _ h => h) (Or.inl ⟨by rfl, ?_⟩) (by assumption) ?_
                        rotate_left 1
                        · intro wz ⟨b0, ⟨z0, z1, z2⟩, _, _⟩
                          go_simp
                          all_goals with_reducible rfl
                        simp only [Act.put, List.setIfInBounds_toArray, List.set_cons_zero, List.set_cons_succ, List.getElem_toArray, List.getElem_cons_zero, List.getElem_cons_succ]
                        refine wpAnyH_take (i := 14) (v := ?_) rfl (by kernel_rfl) (by kernel_rfl) (by kernel_rfl) (fun _ _ _ h => h) (Or.inl ⟨by rfl, ?_⟩) (by assumption) ?_
                        rotate_left 1
                        · intro wz ⟨b0, ⟨z0, z1, z2⟩, _, _⟩
                          go_simp
                          all_goals with_reducible rfl
                        simp only [Act.put, List.setIfInBounds_toArray, List.set_cons_zero, List.set_cons_succ, List.getElem_toArray, List.getElem_cons_zero, List.getElem_cons_succ]
                        refine wpAnyH_take (i := 15) (v := ?_) rfl (by kernel_rfl) (by kernel_rfl) (by kernel_rfl) (fun _ _ _ h => h) (Or.inl ⟨by rfl, ?_⟩) (by assumption) ?_
                        rotate_left 1
                        · intro wz ⟨b0, ⟨z0, z1, z2⟩, _, _⟩
                          go_simp
                          all_goals with_reducible rfl
                        simp only [Act.put, List.setIfInBounds_toArray, List.set_cons_zero, List.set_cons_succ, List.getElem_toArray, List.getElem_cons_zero, List.getElem_cons_succ]
                        refine wpAnyH_ready (rs := [12]) (by kernel_rfl) (by simp) (AllReadyH.cons rfl (fun K hK => ?_) AllReadyH.nil)
                        go_simp
                        refine (HO2.out _ hHeld).mono ?_
                        rintro e w2 ⟨rfl, hb2⟩
                        refine hK.out _ _ ?_ (fun hHeld => ?_)
                        · exact hHeld.below hb2
                        clear hK K hb2
                        refine wpAnyH_ready (rs := [16]) (by kernel_rfl) (by simp) (AllReadyH.cons rfl (fun K hK => ?_) AllReadyH.nil)
                        go_simp
                        refine (HO1.out _ hHeld).mono ?_
                        rintro e w2 ⟨rfl, hb2⟩
                        refine hK.out _ _ ?_ (fun hHeld => ?_)
                        · exact hHeld.below hb2
                        clear hK K hb2
                        refine wpAnyH_take (i := 17) (v := ?_) rfl (by kernel_rfl) (by kernel_rfl) (by kernel_rfl) (fun _ _ _ h => h) (Or.inl ⟨by rfl, ?_⟩) (by assumption) ?_
                        rotate_left 1
                        · intro wz ⟨b0, ⟨z0, z1, z2⟩, _, _⟩
                          go_simp
                          all_goals with_reducible rfl
                        simp only [Act.put, List.setIfInBounds_toArray, List.set_cons_zero, List.set_cons_succ, List.getElem_toArray, List.getElem_cons_zero, List.getElem_cons_succ]
                        refine wpAnyH_take (i := 18) (v := ?_) rfl (by kernel_rfl) (by kernel_rfl) (by kernel_rfl) (fun _ _ _ h => h) (Or.inl ⟨by rfl, ?_⟩) (by assumption) ?_
                        rotate_left 1
                        · intro wz ⟨b0, ⟨z0, z1, z2⟩, _, _⟩
                          go_simp
                          all_goals with_reducible rfl
                        simp only [Act.put, List.setIfInBounds_toArray, List.set_cons_zero, List.set_cons_succ, List.getElem_toArray, List.getElem_cons_zero, List.getElem_cons_succ]
                        refine wpAnyH_take (i := 19) (v := ?_) rfl (by kernel_rfl) (by kernel_rfl) (by kernel_rfl) (fun _ _ _ h => h) (Or.inl ⟨by rfl, ?_⟩) (by assumption) ?_
                        rotate_left 1
                        · intro wz ⟨b0, ⟨z0, z1, z2⟩, _, _⟩
                          go_simp
                          all_goals with_reducible rfl
                        simp only [Act.put, List.setIfInBounds_toArray, List.set_cons_zero, List.set_cons_succ, List.getElem_toArray, List.getElem_cons_zero, List.getElem_cons_succ]
                        refine wpAnyH_done (by kernel_rfl) ?_ _
                        go_wp2
                        go_roundw
                        case rel => exact ⟨k + 1, by omega, by go_num, by rw [HRe2.out], by rw [HCl2.out], by rw [HbS2.out], (by assumption : RfAt w l (some ⟨b, off, none⟩) cap Z x _).box, (by assumption : RfAt w l (some ⟨b, off, none⟩) cap Z x _).bel⟩
                        case measure => simp [intOf]; omega
                      · have g5' : decide ((op : Int) < (ot : Int)) = false := by simp; omega
                        rw [decide_eq_false g5, Bool.not_false, Bool.and_true] at HRe2
                        refine wp_region_held_drew (S := (fun w' => RfAt w l (some ⟨b, off, none⟩) cap Z x w')) (by kernel_rfl) (HA2.out.below (belDr _)) (fun hHeld => ?_)
                        refine wpAnyH_take (i := 0) (v := ?_) rfl (by kernel_rfl) (by kernel_rfl) (by kernel_rfl) (fun _ _ _ h => h) (Or.inl ⟨by rfl, ?_⟩) (by assumption) ?_
                        rotate_left 1
                        · intro wz ⟨b0, ⟨z0, z1, z2⟩, _, _⟩
                          go_simp
                          all_goals with_reducible rfl
                        simp only [Act.put, List.setIfInBounds_toArray, List.set_cons_zero, List.set_cons_succ, List.getElem_toArray, List.getElem_cons_zero]
                        refine wpAnyH_take (i := 1) (v := ?_) rfl (by kernel_rfl) (by kernel_rfl) (by kernel_rfl) (fun _ _ _ h => h) (Or.inl ⟨by rfl, ?_⟩) (by assumption) ?_
                        rotate_left 1
                        · intro wz ⟨b0, ⟨z0, z1, z2⟩, _, _⟩
                          go_simp
                          all_goals with_reducible rfl
                        simp only [Act.put, List.setIfInBounds_toArray, List.set_cons_zero, List.set_cons_succ, List.getElem_toArray, List.getElem_cons_zero, List.getElem_cons_succ]
                        refine wpAnyH_take (i := 2) (v := ?_) rfl (by kernel_rfl) (by kernel_rfl) (by kernel_rfl) (fun _ _ _ h => h) (Or.inl ⟨by rfl, ?_⟩) (by assumption) ?_
                        rotate_left 1
                        · intro wz ⟨b0, ⟨z0, z1, z2⟩, _, _⟩
                          go_simp
                          all_goals with_reducible rfl
                        simp only [Act.put, List.setIfInBounds_toArray, List.set_cons_zero, List.set_cons_succ, List.getElem_toArray, List.getElem_cons_zero, List.getElem_cons_succ]
                        refine wpAnyH_ready (rs := [3]) (by kernel_rfl) (by simp) (AllReadyH.cons rfl (fun K hK => ?_) AllReadyH.nil)
                        go_simp
                        refine (HC1.out _ hHeld).mono ?_
                        rintro e w2 ⟨rfl, hb2⟩
                        refine hK.out _ _ ?_ (fun hHeld => ?_)
                        · exact hHeld.below hb2
                        clear hK K hb2
                        refine wpAnyH_take (i := 4) (v := ?_) rfl (by kernel_rfl) (by kernel_rfl) (by kernel_rfl) (fun _ _ _ h => h) (Or.inl ⟨by rfl, ?_⟩) (by assumption) ?_
                        rotate_left 1
                        · intro wz ⟨b0, ⟨z0, z1, z2⟩, _, _⟩
                          go_simp
                          all_goals with_reducible rfl
                        simp only [Act.put, List.setIfInBounds_toArray, List.set_cons_zero, List.set_cons_succ, List.getElem_toArray, List.getElem_cons_zero, List.getElem_cons_succ]
                        refine wpAnyH_take (i := 5) (v := ?_) rfl (by kernel_rfl) (by kernel_rfl) (by kernel_rfl) (fun _ _ _ h => h) (Or.inl ⟨by rfl, ?_⟩) (by assumption) ?_
                        rotate_left 1
                        · intro wz ⟨b0, ⟨z0, z1, z2⟩, _, _⟩
                          go_simp
                          all_goals with_reducible rfl
                        simp only [Act.put, List.setIfInBounds_toArray, List.set_cons_zero, List.set_cons_succ, List.getElem_toArray, List.getElem_cons_zero, List.getElem_cons_succ]
                        refine wpAnyH_take (i := 6) (v := ?_) rfl (by kernel_rfl) (by kernel_rfl) (by kernel_rfl) (fun _ _ _ h => h) (Or.inl ⟨by rfl, ?_⟩) (by assumption) ?_
                        rotate_left 1
                        · intro wz ⟨b0, ⟨z0, z1, z2⟩, _, _⟩
                          go_simp
                          all_goals with_reducible rfl
                        simp only [Act.put, List.setIfInBounds_toArray, List.set_cons_zero, List.set_cons_succ, List.getElem_toArray, List.getElem_cons_zero, List.getElem_cons_succ]
                        refine wpAnyH_ready (rs := [7]) (by kernel_rfl) (by simp) (AllReadyH.cons rfl (fun K hK => ?_) AllReadyH.nil)
                        go_simp
                        refine (HC2.out _ hHeld).mono ?_
                        rintro e w2 ⟨rfl, hb2⟩
                        refine hK.out _ _ ?_ (fun hHeld => ?_)
                        · exact hHeld.below hb2
                        clear hK K hb2
                        refine wpAnyH_take (i := 8) (v := ?_) rfl (by kernel_rfl) (by kernel_rfl) (by kernel_rfl) (fun _ _ _ h => h) (Or.inl ⟨by rfl, ?_⟩) (by assumption) ?_
                        rotate_left 1
                        · intro wz ⟨b0, ⟨z0, z1, z2⟩, _, _⟩
                          go_simp
                          all_goals with_reducible rfl
                        simp only [Act.put, List.setIfInBounds_toArray, List.set_cons_zero, List.set_cons_succ, List.getElem_toArray, List.getElem_cons_zero, List.getElem_cons_succ]
                        refine wpAnyH_take (i := 9) (v := ?_) rfl (by kernel_rfl) (by kernel_rfl) (by kernel_rfl) (fun _ _ _ h => h) (Or.inl ⟨by rfl, ?_⟩) (by assumption) ?_
                        rotate_left 1
                        · intro wz ⟨b0, ⟨z0, z1, z2⟩, _, _⟩
                          go_simp
                          all_goals with_reducible rfl
                        simp only [Act.put, List.setIfInBounds_toArray, List.set_cons_zero, List.set_cons_succ, List.getElem_toArray, List.getElem_cons_zero, List.getElem_cons_succ]
                        refine wpAnyH_take (i := 10) (v := ?_) rfl (by kernel_rfl) (by kernel_rfl) (by kernel_rfl) (fun _ _ _ h => h) (Or.inl ⟨by rfl, ?_⟩) (by assumption) ?_
                        rotate_left 1
                        · intro wz ⟨b0, ⟨z0, z1, z2⟩, _, _⟩
                          go_simp
                          all_goals with_reducible rfl
                        simp only [Act.put, List.setIfInBounds_toArray, List.set_cons_zero, List.set_cons_succ, List.getElem_toArray, List.getElem_cons_zero, List.getElem_cons_succ]
                        refine wpAnyH_take (i := 11) (v := ?_) rfl (by kernel_rfl) (by kernel_rfl) (by kernel_rfl) (fun _ _ _ h => h) (Or.inl ⟨by rfl, ?_⟩) (by assumption) ?_
                        rotate_left 1
                        · intro wz ⟨b0, ⟨z0, z1, z2⟩, _, _⟩
                          go_simp
                          all_goals with_reducible rfl
                        simp only [Act.put, List.setIfInBounds_toArray, List.set_cons_zero, List.set_cons_succ, List.getElem_toArray, List.getElem_cons_zero, List.getElem_cons_succ]
                        refine wpAnyH_take (i := 13) (v := ?_) rfl (by kernel_rfl) (by kernel_rfl) (by kernel_rfl) (fun _ _ _ h => h) (Or.inl ⟨by rfl, ?_⟩) (by assumption) ?_
                        rotate_left 1
                        · intro wz ⟨b0, ⟨z0, z1, z2⟩, _, _⟩
                          go_simp
                          all_goals with_reducible rfl
                        simp only [Act.put, List.setIfInBounds_toArray, List.set_cons_zero, List.set_cons_succ, List.getElem_toArray, List.getElem_cons_zero, List.getElem_cons_succ]
                        refine wpAnyH_take (i := 14) (v := ?_) rfl (by kernel_rfl) (by kernel_rfl) (by kernel_rfl) (fun _ _ _ h => h) (Or.inl ⟨by rfl, ?_⟩) (by assumption) ?_
                        rotate_left 1
                        · intro wz ⟨b0, ⟨z0, z1, z2⟩, _, _⟩
                          go_simp
                          all_goals with_reducible rfl
                        simp only [Act.put, List.setIfInBounds_toArray, List.set_cons_zero, List.set_cons_succ, List.getElem_toArray, List.getElem_cons_zero, List.getElem_cons_succ]
                        refine wpAnyH_take (i := 15) (v := ?_) rfl (by kernel_rfl) (by kernel_rfl) (by kernel_rfl) (fun _ _ _ h => h) (Or.inl ⟨by rfl, ?_⟩) (by assumption) ?_
                        rotate_left 1
                        · intro wz ⟨b0, ⟨z0, z1, z2⟩, _, _⟩
                          go_simp
                          all_goals with_reducible rfl
                        simp only [Act.put, List.setIfInBounds_toArray, List.set_cons_zero, List.set_cons_succ, List.getElem_toArray, List.getElem_cons_zero, List.getElem_cons_succ]
                        refine wpAnyH_ready (rs := [12]) (by kernel_rfl) (by simp) (AllReadyH.cons rfl (fun K hK => ?_) AllReadyH.nil)
                        go_simp
                        refine (HO2.out _ hHeld).mono ?_
                        rintro e w2 ⟨rfl, hb2⟩
                        refine hK.out _ _ ?_ (fun hHeld => ?_)
                        · exact hHeld.below hb2
                        clear hK K hb2
                        refine wpAnyH_ready (rs := [16]) (by kernel_rfl) (by simp) (AllReadyH.cons rfl (fun K hK => ?_) AllReadyH.nil)
                        go_simp
                        refine (HO1.out _ hHeld).mono ?_
                        rintro e w2 ⟨rfl, hb2⟩
                        refine hK.out _ _ ?_ (fun hHeld => ?_)
                        · exact hHeld.below hb2
                        clear hK K hb2
                        refine wpAnyH_take (i := 17) (v := ?_) rfl (by kernel_rfl) (by kernel_rfl) (by kernel_rfl) (fun _ _ _ h => h) (Or.inl ⟨by rfl, ?_⟩) (by assumption) ?_
                        rotate_left 1
                        · intro wz ⟨b0, ⟨z0, z1, z2⟩, _, _⟩
                          go_simp
                          all_goals with_reducible rfl
                        simp only [Act.put, List.setIfInBounds_toArray, List.set_cons_zero, List.set_cons_succ, List.getElem_toArray, List.getElem_cons_zero, List.getElem_cons_succ]
                        refine wpAnyH_take (i := 18) (v := ?_) rfl (by kernel_rfl) (by kernel_rfl) (by kernel_rfl) (fun _ _ _ h => h) (Or.inl ⟨by rfl, ?_⟩) (by assumption) ?_
                        rotate_left 1
                        · intro wz ⟨b0, ⟨z0, z1, z2⟩, _, _⟩
                          go_simp
                          all_goals with_reducible rfl
                        simp only [Act.put, List.setIfInBounds_toArray, List.set_cons_zero, List.set_cons_succ, List.getElem_toArray, List.getElem_cons_zero, List.getElem_cons_succ]
                        refine wpAnyH_take (i := 19) (v := ?_) rfl (by kernel_rfl) (by kernel_rfl) (by kernel_rfl) (fun _ _ _ h => h) (Or.inl ⟨by rfl, ?_⟩) (by assumption) ?_
                        rotate_left 1
                        · intro wz ⟨b0, ⟨z0, z1, z2⟩, _, _⟩
                          go_simp
                          all_goals with_reducible rfl
                        simp only [Act.put, List.setIfInBounds_toArray, List.set_cons_zero, List.set_cons_succ, List.getElem_toArray, List.getElem_cons_zero, List.getElem_cons_succ]
                        refine wpAnyH_done (by kernel_rfl) ?_ _
                        go_wp2
                        go_roundw
                        case rel => exact ⟨k + 1, by omega, by go_num, by rw [HRe2.out], by rw [HCl2.out], by rw [HbS2.out], (by assumption : RfAt w l (some ⟨b, off, none⟩) cap Z x _).box, (by assumption : RfAt w l (some ⟨b, off, none⟩) cap Z x _).bel⟩
                        case measure => simp [intOf]; omega
    · obtain rfl : k = l.length := by omega
      go_wp2
      refine bodyPost_ret (v := .tuple #[.bool (noneB (badR l) l.length), .bool (noneB (badC l) l.length), .bool (noneB (badS l) l.length)]) (by simp [results, Tryd.results17, go_sem]) rfl ?_
      exact ⟨rfl, HB.out⟩
end Go.Proofs.YtibdchahallbjabDoor
