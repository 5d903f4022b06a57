/-
  Package queue's least and Finds, walked.
  Package queue's Finds of no op, and of whatever list.
-/
import Derived.Test.YtelndpbkheoeaaaDoorCrWZ
import Derived.Test.YtelndpbkheoeaaaDoorZonWZ
namespace Go.Proofs.YtelndpbkheoeaaaDoor
open Go.RowKit

set_option maxHeartbeats 1000000 in
theorem least_any (L : List Pr) (g cap : Nat) (w : World) (hlen : L.length ≤ 10000) (h0 : 0 < L.length) (hl : PrsAt w g 0 L) (hg : g < w.heap.size) :
    Calls Tryd.prog 32 #[.slice (some ⟨g, 0, none⟩) L.length cap] w fun e w' => ∃ p : Pr, e = .returned p.agg ∧ p ∈ L ∧ (∀ q ∈ L, leP p q) ∧ Below w.heap.size w w' := by
  have hbl := belA (Below.refl w.heap.size w) (.cells #[.int .i64 0, .int .i64 0] 77)
  have HC := hideIt (minFunc_any L g cap (w.alloc (.cells #[.int .i64 0, .int .i64 0] 77)) hlen h0 (hl.below hg hbl) (Nat.lt_of_lt_of_le hg hbl.size))
  clear hl
  go_enter Tryd.func32, Tryd.ntmps32
  go_wp2_with fail
  refine HC.out.mono ?_
  rintro e w1 ⟨p, rfl, hp, hle, hb1⟩
  have HP := hideIt hp
  have HLE := hideIt hle
  have hm0 : w1.heap[w.heap.size]? = some (.cells #[.int .i64 0, .int .i64 0] 77) := (hb1.block w.heap.size (by simp)).trans (heap_alloc_new w _)
  have z0 : w1.cell? ⟨w.heap.size, 0, none⟩ = some (.int .i64 0) := by simp [World.cell?, hm0]
  have z1 : w1.cell? ⟨w.heap.size, 1, none⟩ = some (.int .i64 0) := by simp [World.cell?, hm0]
  have y0 : ∀ i, w1.frozen? ⟨w.heap.size, i, none⟩ = false := fun i => frozen_of_row w1 _ i _ 77 hm0
  have HM3 := hideIt (pair_set hm0 (.int .i64 p.a) (.int .i64 p.b))
  have HB := hideIt (pair_below (b := w.heap.size) (x' := .int .i64 p.a) (y' := .int .i64 p.b) (hbl.trans (hb1.mono hbl.size)) (Nat.le_refl _))
  clear hp hle hb1 hm0 hbl
  unfold Pr.agg
  go_wp2
  refine bodyPost_ret (results_cell_row rfl _ _ _ 77 _ _ _ rfl HM3.out Tryd.underlying77 rfl (by kernel_rfl)) rfl ?_
  exact ⟨p, rfl, HP.out, HLE.out, HB.out⟩

/-- Of a code what is gathered is what can't be by the document, and its least is the least. -/
theorem gotP_pairP {l : List Opn} {f : Int → Option Life} {code : Int} {qs : List Int} {L : List Pr} (h : GotP l f code qs L) (hq : ∀ q, q ∈ qs ↔ (f q).isSome = true) (a b : Int) : (⟨a, b⟩ : Pr) ∈ L ↔ pairP l f code a b := by
  have inq : ∀ v s, f v = some s → v ∈ qs := fun v s hs => (hq v).2 (by rw [hs]; rfl)
  rw [h.mem]
  unfold pairP pcP
  split
  · constructor
    · rintro ⟨v, s, _, hs, h1, h2⟩; exact ⟨v, s, hs, h1, congrArg Pr.a h2, congrArg Pr.b h2⟩
    · rintro ⟨v, s, hs, h1, rfl, rfl⟩; exact ⟨v, s, inq v s hs, hs, h1, rfl⟩
  · split
    · constructor
      · rintro ⟨v, s, _, hs, h1, h2⟩; exact ⟨v, s, hs, h1, congrArg Pr.a h2, congrArg Pr.b h2⟩
      · rintro ⟨v, s, hs, h1, rfl, rfl⟩; exact ⟨v, s, inq v s hs, hs, h1, rfl⟩
    · split
      · constructor
        · rintro ⟨v, s, _, hs, h1, h2⟩; exact ⟨v, s, hs, h1, congrArg Pr.a h2, congrArg Pr.b h2⟩
        · rintro ⟨v, s, hs, h1, rfl, rfl⟩; exact ⟨v, s, inq v s hs, hs, h1, rfl⟩
      · constructor
        · rintro ⟨v, s, _, hs, u, t, ht, h1, h2⟩; exact ⟨v, s, u, t, hs, ht, h1, congrArg Pr.a h2, congrArg Pr.b h2⟩
        · rintro ⟨v, s, u, t, hs, ht, h1, rfl, rfl⟩; exact ⟨v, s, inq v s hs, hs, u, t, ht, h1, rfl⟩

theorem noBad_of {l : List Opn} (ok : QOk l) {code : Int} (h1 : 1 ≤ code) (h4 : code ≤ 4) (hb : ∀ c, 1 ≤ c → c < code → noBad l c) {qs : List Int} (h : GotP l (lvs l l.length) code qs []) (hq : ∀ q, q ∈ qs ↔ (lvs l l.length q).isSome = true) : noBad l code := fun i k hi hk hbad => by
  obtain ⟨a, b, hp, _⟩ := bad_pair ok h1 h4 hb hi hk hbad
  have := (gotP_pairP h hq a b).2 hp
  cases this

theorem finds_of {l : List Opn} (ok : QOk l) {code : Int} (h1 : 1 ≤ code) (h4 : code ≤ 4) (hb : ∀ c, 1 ≤ c → c < code → noBad l c) {qs : List Int} {L : List Pr} {p : Pr} (h : GotP l (lvs l l.length) code qs L) (hq : ∀ q, q ∈ qs ↔ (lvs l l.length q).isSome = true) (hp : p ∈ L) (hle : ∀ q ∈ L, leP p q) : FindsT l code p.a p.b := by
  obtain ⟨i, k, hi, hk, ea, eb, hbad⟩ := pair_bad ok h1 h4 hb ((gotP_pairP h hq p.a p.b).1 hp)
  refine .inr ⟨h1, h4, hb, i, k, hi, hk, ea, eb, hbad, fun i' k' hi' hk' hbad' => ?_⟩
  obtain ⟨a', b', hp', hlex⟩ := bad_pair ok h1 h4 hb hi' hk' hbad'
  have := hle ⟨a', b'⟩ ((gotP_pairP h hq a' b').2 hp')
  unfold leP at this
  unfold lexLe at hlex ⊢
  simp only at this
  rw [← ea, ← eb]
  omega

theorem lives_num {l : List Opn} (ok : QOk l) (h1 : noBad l 1) : ∀ v t, lvs l l.length v = some t → (t.pop = -1 ∨ NumOf l t.pop) ∧ NumOf l t.push := fun v t h => by
  have L := life_of ok h
  refine ⟨?_, ?_⟩
  · rcases L.pop with ⟨e, _⟩ | ⟨i, hi, e, _⟩
    · exact .inl e
    · exact .inr ⟨i, hi, e⟩
  · rcases L.push with ⟨_, hn⟩ | ⟨i, hi, e, _⟩
    · obtain ⟨i, hi, e⟩ := lvs_none _ _ _ h
      rcases ok.kind i hi with hd | hd
      · exact absurd ⟨hd, by rw [← e]; unfold valQ; rw [if_neg (by omega)]⟩ (hn i hi)
      · refine absurd ?_ (h1 i i hi hi)
        unfold badP
        rw [if_pos rfl]
        have : (opZ l i).r = v := by rw [← e]; unfold valQ; rw [if_pos hd]
        exact ⟨rfl, hd, by rw [this]; exact hn⟩
    · exact ⟨i, hi, e⟩

theorem prsAt_of {w : World} {base g cap : Nat} {L : List Pr} (h : w.ownsRow base 77 2 (.slice (some ⟨g, 0, none⟩) L.length cap) L.length (prCells L)) : PrsAt w g 0 L := fun i hi => by
  have h0 := h.cellAt (i * 2 + 0) (by omega)
  have h1 := h.cellAt (i * 2 + 1) (by omega)
  rw [prCells_get L i 0 hi (by decide)] at h0
  rw [prCells_get L i 1 hi (by decide)] at h1
  refine ⟨?_, ?_⟩
  · rw [Nat.zero_add]; simpa [Pr.list] using h0
  · rw [Nat.zero_add]; simpa [Pr.list] using h1

/-- What Finds tells. -/
def FnTold (l : List Opn) (w : World) (e : Ending) (w' : World) : Prop :=
  ∃ n c a b, e = .returned (.tuple #[.int .i64 c, .int .i64 a, .int .i64 b, toldV n]) ∧ CTold qFormB 9 l n ∧ (n = 0 → FindsT l c a b) ∧ (n ≠ 0 → c = 0 ∧ a = 0 ∧ b = 0) ∧ Below w.heap.size w w'

theorem pairs_all {l : List Opn} (ok : QOk l) {b off cap M n : Nat} {w : World} (hn : n ≤ 60) (hm : MapV Tryd.prog Life.val w M n (lvs l l.length)) (hl : OpsAt w b off l) (hb : b < w.heap.size) {c : Nat} (h1 : 1 ≤ c) (h4 : c ≤ 4) (hbad : ∀ d : Int, 1 ≤ d → d < c → noBad l d) :
    Calls Tryd.prog 31 #[.map (some M), .int .i64 c, .slice (some ⟨b, off, none⟩) l.length cap] w fun e w' => PairsT l (lvs l l.length) c w e w' := by
  have hc : c = 1 ∨ c = 2 ∨ c = 3 ∨ c = 4 := by omega
  rcases hc with rfl | rfl | rfl | rfl
  · exact pairs1_any l _ b off cap M n w hn hm
  · exact pairs2_any l _ b off cap M n w hn hm
  · exact pairs3_any l _ b off cap M n w hn hm hl hb (lives_num ok (hbad 1 (by decide) (by decide)))
  · exact pairs4_any l _ b off cap M n w hn hm hl hb (lives_num ok (hbad 1 (by decide) (by decide)))

set_option maxHeartbeats 2000000 in
theorem finds_some (l : List Opn) (b off cap : Nat) (w : World) (hlen : l.length ≤ 60) (hcap : l.length ≤ cap) (hl : OpsAt w b off l) (hb : b < w.heap.size) :
    Calls Tryd.prog 16 #[.slice (some ⟨b, off, none⟩) l.length cap] w fun e w' => FnTold l w e w' := by
  have HL := hideIt hl
  have HC := hideIt (qCheck_any l (some ⟨b, off, none⟩) cap w hlen hcap (.inr ⟨b, off, rfl, hb, hl⟩))
  clear hl
  go_enter Tryd.func16, Tryd.ntmps16
  go_wp2_with fail
  refine HC.out.mono ?_
  rintro e w1 ⟨n, rfl, ht, hb1⟩
  have HB1 := hideIt hb1
  have HCT := hideIt ht
  clear hb1 ht HC
  by_cases hn : n = 0
  · subst hn
    have ok := hideIt (qOk_of HCT.out)
    have HT := hideIt HCT.out.zero.1
    have HL1 := hideIt (HL.out.below hb HB1.out)
    have hb1 : b < w1.heap.size := Nat.lt_of_lt_of_le hb HB1.out.size
    have HV := hideIt (lives_any l (some ⟨b, off, none⟩) cap w1 hlen (.inr ⟨b, off, rfl, hb1, HL1.out⟩) HT.out)
    rw [show toldV 0 = .nilIface from by simp [toldV]]
    go_wp2_with fail
    refine HV.out.mono ?_
    rintro e w2 ⟨M, rfl, hM1, hm2, hb2⟩
    have HM2 := hideIt hm2
    have HB2 := hideIt hb2
    have hMlt := hm2.lt
    clear hm2 hb2 HV
    go_wp2
    go_loopw [2] (fun i wr => ∃ k : Nat, 1 ≤ k ∧ k ≤ 5 ∧ i = .int .i64 k ∧ (∀ d : Int, 1 ≤ d → d < k → noBad l d) ∧ Below w2.heap.size w2 wr) (fun i _ => 6 - (intOf i).toNat)
    case atStart => exact ⟨1, by omega, by omega, rfl, fun d h1 h2 => absurd h2 (by omega), Below.refl _ _⟩
    case round =>
      obtain ⟨k, hk1, hk5, rfl, hbad, hnx⟩ := hrel
      have HBAD := hideIt hbad
      have HNX := hideIt hnx
      have HBW := hideIt (HB1.out.trans ((HB2.out.trans (hnx.mono HB2.out.size)).mono HB1.out.size))
      clear hbad
      by_cases hk : k ≤ 4
      · have hkI : (k : Int) ≤ 4 := by omega
        have HP := hideIt (pairs_all ok.out (cap := cap) hlen (HM2.out.below hnx hMlt) (HL.out.below hb HBW.out) (Nat.lt_of_lt_of_le hb HBW.out.size) hk1 hk HBAD.out)
        go_wp2_with fail
        refine HP.out.mono ?_
        rintro e w3 ⟨v, L, qs, rfl, ho, hgot, hq, hq60, hb3⟩
        have HGOT := hideIt hgot
        have HQ := hideIt hq
        have HB3 := hideIt hb3
        have HB3w := hideIt (HBW.out.trans (hb3.mono HBW.out.size))
        have hlen3 : L.length ≤ 10000 := by have := hgot.len; omega
        clear hgot hq hb3 HP
        rcases ho.2 with ⟨rfl, h0⟩ | ⟨g, cg, cur, rfl, hgb, hgh, _⟩
        · obtain rfl : L = [] := List.length_eq_zero_iff.1 h0
          have R1 : Hid (∀ d : Int, 1 ≤ d → d < (k + 1 : Nat) → noBad l d) := fun d h1 h2 => by
            by_cases e : d = k
            · subst e; exact noBad_of ok.out h1 (by omega) HBAD.out HGOT.out HQ.out
            · exact HBAD.out d h1 (by omega)
          have R2 := hideIt (HNX.out.trans (HB3.out.mono HNX.out.size))
          clear ho
          go_wp2
          go_roundw
          case rel => exact ⟨k + 1, by omega, by omega, by go_num, R1.out, R2.out⟩
          case measure => simp [intOf]; omega
        · have hgl : g < w3.heap.size := (Array.getElem?_eq_some_iff.1 hgh).1
          have HPR := hideIt (prsAt_of ho)
          clear ho hgh
          by_cases h0 : 0 < L.length
          · have hpI : (0 : Int) < (L.length : Int) := by omega
            have HLE := hideIt (least_any L g cg w3 hlen3 h0 HPR.out hgl)
            go_wp2_with fail
            refine HLE.out.mono ?_
            rintro e w4 ⟨p, rfl, hp, hle, hb4⟩
            have R1 := hideIt (finds_of ok.out (by omega) (by omega) HBAD.out HGOT.out HQ.out hp hle)
            have R2 := hideIt (HB3w.out.trans (hb4.mono HB3w.out.size))
            clear hp hle hb4 HLE
            unfold Pr.agg
            go_wp2_with fail
            go_big_quiet (fail)
            go_wp2
            (try simp only [Exit.inBlock, Exit.then]); refine bodyPost_ret (results_tmp4 rfl _ _ _) rfl ?_
            exact ⟨0, k, p.a, p.b, by simp [toldV], HCT.out, fun _ => R1.out, fun h => absurd rfl h, below_drewN (belA R2.out _) _⟩
          · obtain rfl : L = [] := List.length_eq_zero_iff.1 (by omega)
            have R1 : Hid (∀ d : Int, 1 ≤ d → d < (k + 1 : Nat) → noBad l d) := fun d h1 h2 => by
              by_cases e : d = k
              · subst e; exact noBad_of ok.out h1 (by omega) HBAD.out HGOT.out HQ.out
              · exact HBAD.out d h1 (by omega)
            have R2 := hideIt (HNX.out.trans (HB3.out.mono HNX.out.size))
            go_wp2
            go_roundw
            case rel => exact ⟨k + 1, by omega, by omega, by go_num, R1.out, R2.out⟩
            case measure => simp [intOf]; omega
      · have hkI : ¬ (k : Int) ≤ 4 := by omega
        have R1 : Hid (FindsT l 0 0 0) := .inl ⟨rfl, rfl, rfl, fun c h1 h4 => HBAD.out c h1 (by omega)⟩
        go_wp2
        (try simp only [Exit.inBlock, Exit.then]); refine bodyPost_ret (results_tmp4 rfl _ _ _) rfl ?_
        exact ⟨0, 0, 0, 0, by simp [toldV], HCT.out, fun _ => R1.out, fun h => absurd rfl h, HBW.out⟩
  · have e : toldV n = .iface 24 (.int .i64 n) := by simp [toldV, hn]
    rw [e]
    have HE := hideIt e
    clear e
    go_wp2
    (try simp only [Exit.inBlock, Exit.then]); refine bodyPost_ret (results_tmp4 rfl _ _ _) rfl ?_
    exact ⟨n, 0, 0, 0, by rw [HE.out]; rfl, HCT.out, fun h => absurd h hn, fun _ => ⟨rfl, rfl, rfl⟩, HB1.out⟩

end Go.Proofs.YtelndpbkheoeaaaDoor

namespace Go.Proofs.YtelndpbkheoeaaaDoor
open Go.RowKit

set_option maxHeartbeats 1000000 in
theorem pairs_none (c : Int) (sl : Value) (M n : Nat) (w : World) (hm : MapV Tryd.prog Life.val w M n (fun _ => none)) :
    Calls Tryd.prog 31 #[.map (some M), .int .i64 c, sl] w fun e w' => e = .returned (.slice none 0 0) ∧ Below w.heap.size w w' := by
  have HM0 := hideIt hm
  clear hm
  go_enter Tryd.func31, Tryd.ntmps31
  go_wp2_with (at_range; refine wpList_range_v (mk := Life.val) _ Tryd.underlying3 rfl _ _ rfl _ Tryd.underlying72 _ _ _ rfl HM0.out ?_; intro w2 hr2 hg2 hs2 hc2)
  go_frame
  go_loopw [7] (fun v wr => v = .slice none 0 0 ∧ (∃ (f : Int → Option Life) (left : Int → Bool), RangeV Tryd.prog Life.val wr M w.heap.size n f left ∧ ∀ q, f q = none) ∧ Below w.heap.size w wr) (fun _ _ => 0)
  case atStart => exact ⟨rfl, ⟨_, _, hr2, fun _ => rfl⟩, (Below.refl w.heap.size w).grown hg2 (Nat.le_refl _) (fun k hk => by cases hk)⟩
  case round =>
    obtain ⟨rfl, ⟨f, left, hrg, hf⟩, hnx⟩ := hrel
    have HNX := hideIt hnx
    have HF := hideIt hf
    clear hnx hf
    go_wp2_with (at_next; refine wpList_next_v _ Tryd.underlying3 rfl _ rfl M w.heap.size n f left rfl hrg ?_ ?_)
    · intro _
      go_wp2
      go_ret
      exact ⟨rfl, HNX.out⟩
    · intro u t w3 hwf hfu
      rw [HF.out u] at hfu
      cases hfu

set_option maxHeartbeats 1000000 in
theorem finds_none (a : Option Addr) (cap : Nat) (w : World) : Calls Tryd.prog 16 #[.slice a 0 cap] w fun e w' => FnTold [] w e w' := by
  have HC := hideIt (qCheck_none a cap w)
  have HCT : Hid (CTold qFormB 9 [] 0) := cTold_all told_nilQ (fun j hj => absurd hj (by simp))
  have HF : Hid (FindsT [] 0 0 0) := .inl ⟨rfl, rfl, rfl, fun c _ _ i k hi => absurd hi (by simp)⟩
  go_enter Tryd.func16, Tryd.ntmps16
  go_wp2_with fail
  refine HC.out.mono ?_
  rintro e w1 ⟨rfl, hb1⟩
  have HB1 := hideIt hb1
  have HV := hideIt (lives_any [] a cap w1 (by simp) (.inl rfl) told_nilQ)
  clear hb1 HC
  rw [show toldV 0 = .nilIface from by simp [toldV]]
  go_wp2_with fail
  refine HV.out.mono ?_
  rintro e w2 ⟨M, rfl, hM1, hm2, hb2⟩
  have HM2 : Hid (MapV Tryd.prog Life.val w2 M 0 (fun _ => none)) := hm2
  have HB2 := hideIt hb2
  have hMlt := hm2.lt
  clear hm2 hb2 HV
  go_wp2
  go_loopw [2] (fun i wr => ∃ k : Nat, 1 ≤ k ∧ k ≤ 5 ∧ i = .int .i64 k ∧ Below w2.heap.size w2 wr) (fun i _ => 6 - (intOf i).toNat)
  case atStart => exact ⟨1, by omega, by omega, rfl, Below.refl _ _⟩
  case round =>
    obtain ⟨k, hk1, hk5, rfl, hnx⟩ := hrel
    have HNX := hideIt hnx
    have HBW := hideIt (HB1.out.trans ((HB2.out.trans (hnx.mono HB2.out.size)).mono HB1.out.size))
    by_cases hk : k ≤ 4
    · have hkI : (k : Int) ≤ 4 := by omega
      have HP := hideIt (pairs_none k (.slice a 0 cap) M 0 wr (HM2.out.below hnx hMlt))
      go_wp2_with fail
      refine HP.out.mono ?_
      rintro e w3 ⟨rfl, hb3⟩
      have R2 := hideIt (HNX.out.trans (hb3.mono HNX.out.size))
      clear hb3 HP
      go_wp2
      go_roundw
      case rel => exact ⟨k + 1, by omega, by omega, by go_num, R2.out⟩
      case measure => simp [intOf]; omega
    · have hkI : ¬ (k : Int) ≤ 4 := by omega
      go_wp2
      (try simp only [Exit.inBlock, Exit.then]); refine bodyPost_ret (results_tmp4 rfl _ _ _) rfl ?_
      exact ⟨0, 0, 0, 0, by simp [toldV], HCT.out, fun _ => HF.out, fun h => absurd rfl h, HBW.out⟩

theorem finds_any (l : List Opn) (a : Option Addr) (cap : Nat) (w : World) (hlen : l.length ≤ 60) (hcap : l.length ≤ cap) (hl : OpsQ w a l) :
    Calls Tryd.prog 16 #[.slice a l.length cap] w fun e w' => FnTold l w e w' := by
  rcases hl with rfl | ⟨b, off, rfl, hb, hl⟩
  · exact finds_none a cap w
  · exact finds_some l b off cap w hlen hcap hl hb

end Go.Proofs.YtelndpbkheoeaaaDoor
