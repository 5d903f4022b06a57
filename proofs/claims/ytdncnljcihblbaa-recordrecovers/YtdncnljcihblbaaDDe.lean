/-
  Bytes as an event: the document's way, walked.
-/
import Derived.Test.YtdncnljcihblbaaDEn
import Derived.Test.YtdncnljcihblbaaEvX
import Derived.Test.YtdncnljcihblbaaWalkAZ
namespace Go.Proofs.Ytdncnljcihblbaa
open Go.RowKit

/-- Numbers read one behind the other, as the document does. -/
def rdsD : Nat → List Nat → List Nat → Option (List Nat × List Nat)
  | 0, xs, r => some (xs, r)
  | n + 1, xs, r => match rdD 0 0 r with
    | none => none
    | some (u, r') => rdsD n (xs ++ [u]) r'
theorem rds_none {n : Nat} {xs r : List Nat} (h : rdD 0 0 r = none) : rdsD (n + 1) xs r = none := by rw [rdsD, h]
theorem rds_some {n u : Nat} {xs r r' : List Nat} (h : rdD 0 0 r = some (u, r')) : rdsD (n + 1) xs r = rdsD n (xs ++ [u]) r' := by rw [rdsD, h]
/-- The event of these bytes. -/
def evD (l xs : List Nat) : Ev := ⟨(l.getD 0 0 : Nat), (l.getD 1 0 : Nat), (l.getD 2 0 : Nat), (l.getD 3 0 : Nat), unzN (xs.getD 0 0), unzN (xs.getD 1 0), unzN (xs.getD 2 0)⟩
theorem dec_short {l : List Nat} (h : l.length < 4) : decL l = none := by
  rw [← decD_eq]
  unfold decD
  have : readD l = none := by
    match l, h with
    | [], _ => rfl
    | [_], _ => rfl
    | [_, _], _ => rfl
    | [_, _, _], _ => rfl
  rw [this]
theorem four_of {l : List Nat} (h : 4 ≤ l.length) : ∃ p t k d r, l = p :: t :: k :: d :: r := by
  match l, h with
  | p :: t :: k :: d :: r, _ => exact ⟨p, t, k, d, r, rfl⟩
theorem readD_none {l : List Nat} (h : 4 ≤ l.length) (hx : rdsD 3 [] (l.drop 4) = none) : decL l = none := by
  rw [← decD_eq]
  obtain ⟨p, t, k, d, r, rfl⟩ := four_of h
  have hx' : rdsD 3 [] r = none := hx
  unfold decD
  have : readD (p :: t :: k :: d :: r) = none := by
    show (match rdD 0 0 r with
      | none => none
      | some (a, l1) => match rdD 0 0 l1 with
        | none => none
        | some (b, l2) => match rdD 0 0 l2 with
          | none => none
          | some (c, l3) => some ((⟨p, t, k, d, unzN a, unzN b, unzN c⟩ : Ev), l3)) = none
    cases h1 : rdD 0 0 r with
    | none => rfl
    | some q =>
      obtain ⟨a, l1⟩ := q
      rw [rds_some h1] at hx'
      show (match rdD 0 0 l1 with
        | none => none
        | some (b, l2) => match rdD 0 0 l2 with
          | none => none
          | some (c, l3) => some ((⟨p, t, k, d, unzN a, unzN b, unzN c⟩ : Ev), l3)) = none
      cases h2 : rdD 0 0 l1 with
      | none => rfl
      | some q =>
        obtain ⟨b, l2⟩ := q
        rw [rds_some h2] at hx'
        show (match rdD 0 0 l2 with
          | none => none
          | some (c, l3) => some ((⟨p, t, k, d, unzN a, unzN b, unzN c⟩ : Ev), l3)) = none
        cases h3 : rdD 0 0 l2 with
        | none => rfl
        | some q =>
          obtain ⟨c, l3⟩ := q
          rw [rds_some h3] at hx'
          cases hx'
  rw [this]
theorem readD_some {l xs r : List Nat} (h : 4 ≤ l.length) (hx : rdsD 3 [] (l.drop 4) = some (xs, r)) : decL l = if r = [] ∧ fltE (evD l xs) = 0 ∧ encL (evD l xs) = l then some (evD l xs) else none := by
  rw [← decD_eq]
  obtain ⟨p, t, k, d, q, rfl⟩ := four_of h
  have hx' : rdsD 3 [] q = some (xs, r) := hx
  unfold decD
  have : readD (p :: t :: k :: d :: q) = some (evD (p :: t :: k :: d :: q) xs, r) := by
    show (match rdD 0 0 q with
      | none => none
      | some (a, l1) => match rdD 0 0 l1 with
        | none => none
        | some (b, l2) => match rdD 0 0 l2 with
          | none => none
          | some (c, l3) => some ((⟨p, t, k, d, unzN a, unzN b, unzN c⟩ : Ev), l3)) = _
    cases h1 : rdD 0 0 q with
    | none => rw [rds_none h1] at hx'; cases hx'
    | some z =>
      obtain ⟨a, l1⟩ := z
      rw [rds_some h1] at hx'
      show (match rdD 0 0 l1 with
        | none => none
        | some (b, l2) => match rdD 0 0 l2 with
          | none => none
          | some (c, l3) => some ((⟨p, t, k, d, unzN a, unzN b, unzN c⟩ : Ev), l3)) = _
      cases h2 : rdD 0 0 l1 with
      | none => rw [rds_none h2] at hx'; cases hx'
      | some z =>
        obtain ⟨b, l2⟩ := z
        rw [rds_some h2] at hx'
        show (match rdD 0 0 l2 with
          | none => none
          | some (c, l3) => some ((⟨p, t, k, d, unzN a, unzN b, unzN c⟩ : Ev), l3)) = _
        cases h3 : rdD 0 0 l2 with
        | none => rw [rds_none h3] at hx'; cases hx'
        | some z =>
          obtain ⟨c, l3⟩ := z
          rw [rds_some h3] at hx'
          cases hx'
          rfl
  rw [this]

/-- What Decode of the document tells. -/
def decDV (l : List Nat) : Value := match decL l with
  | none => .tuple #[zeroE.agg, .bool false]
  | some e => .tuple #[e.agg, .bool true]

/-- An event in a block that may be turned. -/
structure EvI (W : World) (E : Nat) (e : Ev) : Prop where
  c0 : W.cell? ⟨E, 0, none⟩ = some (.int .i64 e.p)
  c1 : W.cell? ⟨E, 1, none⟩ = some (.int .i64 e.t)
  c2 : W.cell? ⟨E, 2, none⟩ = some (.int .i64 e.k)
  c3 : W.cell? ⟨E, 3, none⟩ = some (.int .i64 e.d)
  c4 : W.cell? ⟨E, 4, none⟩ = some (.int .i64 e.a)
  c5 : W.cell? ⟨E, 5, none⟩ = some (.int .i64 e.b)
  c6 : W.cell? ⟨E, 6, none⟩ = some (.int .i64 e.r)
  fz : ∀ o, W.frozen? ⟨E, o, none⟩ = false
  lt : E < W.heap.size
theorem EvI.below {W W' : World} {E B : Nat} {e : Ev} (h : EvI W E e) (hE : E < B) (hb : Below B W W') : EvI W' E e :=
  ⟨(hb.cell (p := ⟨E, 0, none⟩) hE).trans h.c0, (hb.cell (p := ⟨E, 1, none⟩) hE).trans h.c1, (hb.cell (p := ⟨E, 2, none⟩) hE).trans h.c2, (hb.cell (p := ⟨E, 3, none⟩) hE).trans h.c3, (hb.cell (p := ⟨E, 4, none⟩) hE).trans h.c4, (hb.cell (p := ⟨E, 5, none⟩) hE).trans h.c5, (hb.cell (p := ⟨E, 6, none⟩) hE).trans h.c6, fun o => (hb.frozen (p := ⟨E, o, none⟩) hE).trans (h.fz o), Nat.lt_of_lt_of_le h.lt hb.size⟩
theorem evI_new (w : World) (t : TypeId) : EvI (w.alloc (.cells #[.int .i64 0, .int .i64 0, .int .i64 0, .int .i64 0, .int .i64 0, .int .i64 0, .int .i64 0] t)) w.heap.size zeroE :=
  ⟨by simp [go_sem, zeroE], by simp [go_sem, zeroE], by simp [go_sem, zeroE], by simp [go_sem, zeroE], by simp [go_sem, zeroE], by simp [go_sem, zeroE], by simp [go_sem, zeroE], fun o => by simp [go_sem], by simp [go_sem]⟩

/-- Three numbers in a block. -/
structure N3 (W : World) (B : Nat) (f : Nat → Int) : Prop where
  at' : ∀ i, i < 3 → W.cell? ⟨B, i, none⟩ = some (.int .i64 (f i))
  fz : ∀ o, W.frozen? ⟨B, o, none⟩ = false
  lt : B < W.heap.size
theorem N3.below {W W' : World} {B C : Nat} {f : Nat → Int} (h : N3 W B f) (hB : B < C) (hb : Below C W W') : N3 W' B f :=
  ⟨fun i hi => (hb.cell (p := ⟨B, i, none⟩) hB).trans (h.at' i hi), fun o => (hb.frozen (p := ⟨B, o, none⟩) hB).trans (h.fz o), Nat.lt_of_lt_of_le h.lt hb.size⟩
theorem n3_new (w : World) (t : TypeId) : N3 (w.alloc (.cells #[.int .i64 0, .int .i64 0, .int .i64 0] t)) w.heap.size (fun _ => 0) := by
  refine ⟨fun i hi => ?_, fun o => by simp [go_sem], by simp [go_sem]⟩
  match i, hi with
  | 0, _ => simp [go_sem]
  | 1, _ => simp [go_sem]
  | 2, _ => simp [go_sem]
theorem N3.set {W : World} {B : Nat} {f : Nat → Int} (h : N3 W B f) (j : Nat) (hj : j < 3) (x : Int) : N3 (W.setCell ⟨B, j, none⟩ (.int .i64 x)) B (fun i => if i = j then x else f i) := by
  have hc := h.at' j hj
  refine ⟨fun i hi => ?_, fun o => by simp [go_sem, h.fz], by simpa [go_sem] using h.lt⟩
  by_cases e : i = j
  · subst e
    simp [go_sem, hc]
  · simp only [e, if_false]
    rw [← h.at' i hi]
    simp [go_sem]
theorem n3_same {W : World} {B : Nat} {f g : Nat → Int} (h : N3 W B f) (he : ∀ i, i < 3 → f i = g i) : N3 W B g := ⟨fun i hi => (h.at' i hi).trans (by rw [he i hi]), h.fz, h.lt⟩
theorem EvI.far {W : World} {E B j : Nat} {e : Ev} {v : Value} (h : EvI W E e) (hne : B ≠ E) : EvI (W.setCell ⟨B, j, none⟩ v) E e := by
  have hn : ∀ o, (⟨B, j, none⟩ : Addr).block ≠ (⟨E, o, none⟩ : Addr).block := fun _ => hne
  exact ⟨(World.cell?_setCell_far _ _ _ _ (hn 0)).trans h.c0, (World.cell?_setCell_far _ _ _ _ (hn 1)).trans h.c1, (World.cell?_setCell_far _ _ _ _ (hn 2)).trans h.c2, (World.cell?_setCell_far _ _ _ _ (hn 3)).trans h.c3, (World.cell?_setCell_far _ _ _ _ (hn 4)).trans h.c4, (World.cell?_setCell_far _ _ _ _ (hn 5)).trans h.c5, (World.cell?_setCell_far _ _ _ _ (hn 6)).trans h.c6, fun o => by simp [go_sem, h.fz], by simpa [go_sem] using h.lt⟩
theorem up128 {u q P : Nat} (hu : u < P) (hq : q ≤ 127 * P) : u + q < P * 128 := by omega
theorem qb128 {q P : Nat} (h : q ≤ 127 * P) (hP : P ≤ 34359738368) : q ≤ 4363686772736 := by omega
theorem unz_odd {z : Nat} (h : z % 2 = 1) (hz : z < 4503599627370496) : wrap64 (-(((z : Int) + 1).tdiv 2)) = unzN z := by
  unfold unzN wrap64
  rw [if_neg (by omega), Int.tdiv_eq_ediv_of_nonneg (by omega)]
  omega
theorem unz_even {z : Nat} (h : ¬ z % 2 = 1) : (z : Int) / 2 = unzN z := by
  unfold unzN
  rw [if_pos (by omega)]
  omega
theorem below_set2 {w W : World} {B j : Nat} {v : Value} (h : Below w.heap.size w W) (hB : w.heap.size ≤ B) : Below w.heap.size w (W.setCell ⟨B, j, none⟩ v) := h.grown (grown_set W ⟨B, j, none⟩ v) h.size (fun g hg => by cases hg; exact hB)
theorem pow5 {i : Nat} (h : i ≤ 5) : 128 ^ i ≤ 34359738368 := Nat.le_trans (Nat.pow_le_pow_right (by decide) h) (by decide)
theorem pow6 {i : Nat} (h : i ≤ 6) (h5 : ¬ i ≤ 5) : 128 ^ i = 4398046511104 := by
  obtain rfl : i = 6 := by omega
  rfl

set_option maxHeartbeats 1000000 in
set_option maxRecDepth 100000 in
theorem refDecode_short (v : Value) (l : List Nat) (w : World) (hq : ByQ w v l) (h4 : l.length < 4) :
    Calls Try.prog 16 #[v] w fun e w' => e = .returned (decDV l) ∧ Below w.heap.size w w' := by
  have hr : decDV l = .tuple #[.agg #[.int .i64 0, .int .i64 0, .int .i64 0, .int .i64 0, .int .i64 0, .int .i64 0, .int .i64 0], .bool false] := by unfold decDV; rw [dec_short h4]; rfl
  rw [hr]
  clear hr
  obtain ⟨a, c, rfl⟩ := hq.form
  have hl' : ((l.length : Nat) : Int) < 4 := by omega
  clear hq
  go_enter Try.func16, Try.ntmps16
  go_wp2
  exact bodyPost_ret (v := .tuple #[.agg #[.int .i64 0, .int .i64 0, .int .i64 0, .int .i64 0, .int .i64 0, .int .i64 0, .int .i64 0], .bool false]) (by simp [results, Try.results16, go_sem]) rfl ⟨rfl, below_alloc (Below.refl _ _) _⟩

set_option maxHeartbeats 8000000 in
set_option maxRecDepth 100000 in
theorem refDecode_long (b o c : Nat) (l : List Nat) (w : World) (hB : Byt l) (hc : l.length ≤ c) (hb : b < w.heap.size) (hA : BysAt w b o l) (hl : l.length ≤ 70000) (h4 : 4 ≤ l.length) :
    Calls Try.prog 16 #[.slice (some ⟨b, o, none⟩) l.length c] w fun e w' => e = .returned (decDV l) ∧ Below w.heap.size w w' := by
  have HA := hideIt hA
  have h4' : ¬ ((l.length : Nat) : Int) < 4 := by omega
  have HNone : Hid (rdsD 3 [] (l.drop 4) = none → decDV l = .tuple #[.agg #[.int .i64 0, .int .i64 0, .int .i64 0, .int .i64 0, .int .i64 0, .int .i64 0, .int .i64 0], .bool false]) := by
    intro h
    unfold decDV; rw [readD_none h4 h]; rfl
  have HE0 := hideIt ((evI_new w 50).below (by simp) (below_alloc (Below.refl _ _) (.cells #[.int .i64 0, .int .i64 0, .int .i64 0] 65)))
  have HN0 := hideIt (n3_new (w.alloc (.cells #[.int .i64 0, .int .i64 0, .int .i64 0, .int .i64 0, .int .i64 0, .int .i64 0, .int .i64 0] 50)) 65)
  rw [World.size_alloc] at HN0
  clear hA
  go_enter Try.func16, Try.ntmps16
  go_wp2
  go_loopw [4, 15] (fun a i wr => ∃ (j at' : Nat) (xs : List Nat), j ≤ 3 ∧ i = .int .i64 j ∧ a = .int .i64 (at' : Nat) ∧ 4 ≤ at' ∧ at' ≤ l.length ∧ xs.length = j ∧ rdsD 3 [] (l.drop 4) = rdsD (3 - j) xs (l.drop at') ∧ N3 wr (w.heap.size + 1) (fun i => if i < j then unzN (xs.getD i 0) else 0) ∧ EvI wr w.heap.size zeroE ∧ Below w.heap.size w wr) (fun _ i _ => 3 - (intOf i).toNat)
  case atStart => exact ⟨0, 4, [], by omega, rfl, rfl, Nat.le_refl _, h4, rfl, rfl, by simpa using HN0.out, HE0.out, below_alloc (below_alloc (Below.refl _ _) _) _⟩
  case round =>
    obtain ⟨j, at0, xs, hj, rfl, rfl, hat4, hatl, hxl, hrds, hn3, hev, hnx⟩ := hrel
    have HRD := hideIt hrds
    have HN := hideIt hn3
    have HE := hideIt hev
    have HX := hideIt hnx
    have HXL := hideIt hxl
    have hsz := hnx.size
    clear hrds hn3 hev hnx hxl HE0 HN0
    by_cases hj3 : j < 3
    · have hj3i : (j : Int) < 3 := by omega
      have hj3d : decide ((j : Int) < 3) = true := decide_eq_true hj3i
      go_wp2
      go_loop [4, 7, 8] (fun a u p => ∃ at' u' i : Nat, a = .int .i64 (at' : Nat) ∧ u = .int .i64 (u' : Nat) ∧ p = .int .i64 ((128 ^ i : Nat) : Int) ∧ at0 ≤ at' ∧ at' ≤ l.length ∧ i ≤ 6 ∧ u' < 128 ^ i ∧ rdD 0 0 (l.drop at0) = rdD i u' (l.drop at')) (fun a _ _ => l.length - (intOf a).toNat)
      case atStart => exact ⟨at0, 0, 0, rfl, rfl, by simp, Nat.le_refl _, hatl, by omega, by decide, rfl⟩
      case round =>
        obtain ⟨a, u, i, rfl, rfl, rfl, ha0, hal, hi6, hu, hrd⟩ := hrel
        have HR := hideIt hrd
        clear hrd
        obtain ⟨P, hP⟩ : ∃ P, P = 128 ^ i := ⟨_, rfl⟩
        have hP2 : i ≤ 5 → P ≤ 34359738368 := fun h => hP ▸ pow5 h
        have hP3 : ¬ i ≤ 5 → P = 4398046511104 := fun h => hP ▸ pow6 hi6 h
        have HPI := hideIt hP
        rw [← hP] at hu ⊢
        clear hP
        obtain ⟨k0, k1, k2, k3, k4, k5, k6, kf, klt⟩ := HE.out
        simp only [zeroE] at k0 k1 k2 k3 k4 k5 k6
        by_cases hlt : a < l.length
        · have hne : ((a : Int) == (l.length : Int)) = false := by simp; omega
          by_cases hi5 : i ≤ 5
          · have hPb := hP2 hi5
            clear hP2 hP3
            have hgt : ¬ (1099511627776 : Int) < (P : Int) := by omega
            have hcell := (HX.out.cell (p := ⟨b, o + a, none⟩) hb).trans (HA.out a hlt)
            have hx := hB.at hlt
            have hdr : l.drop a = l[a] :: l.drop (a + 1) := List.drop_eq_getElem_cons hlt
            have HD : Hid (rdD 0 0 (l.drop at0) = if l[a] < 128 then some (u + l[a] % 128 * P, l.drop (a + 1)) else rdD (i + 1) (u + l[a] % 128 * P) (l.drop (a + 1))) := by
              show rdD 0 0 (l.drop at0) = _
              rw [HR.out, hdr, rdD, ← HPI.out, if_neg (by omega)]
            clear hdr
            generalize l[a] = x at *
            have hq1 : x % 128 * P ≤ 127 * P := Nat.mul_le_mul_right _ (by omega)
            have hmul : wrap64 ((x : Int) % 128 * (P : Int)) = ((x % 128 * P : Nat) : Int) := by
              have e : (x : Int) % 128 * (P : Int) = ((x % 128 * P : Nat) : Int) := by simp
              rw [e]; unfold wrap64; omega
            generalize x % 128 * P = q at *
            have HQ1 := hideIt hq1
            have hqb : q ≤ 4363686772736 := qb128 hq1 hPb
            clear hq1
            clear k0 k1 k2 k3 k4 k5 k6 kf klt
            by_cases hx8 : x < 128
            · rw [if_pos hx8] at HD
              have hx8' : (x : Int) < 128 := by omega
              have hcj := HN.out.at' j hj3
              have hfz := HN.out.fz
              have hlt1 := HN.out.lt
              have HF : Hid (rdsD 3 [] (l.drop 4) = rdsD (3 - (j + 1)) (xs ++ [u + q]) (l.drop (a + 1))) := by
                show rdsD 3 [] (l.drop 4) = _
                rw [HRD.out, show 3 - j = (3 - (j + 1)) + 1 by omega, rds_some HD.out]
              have HM : Hid (∀ (f : Nat → Int) (W : World) (y : Int), N3 W (w.heap.size + 1) f → (∀ i, i < 3 → f i = if i = j then y else if i < j then unzN (xs.getD i 0) else 0) → y = unzN (u + q) → N3 W (w.heap.size + 1) (fun i => if i < j + 1 then unzN ((xs ++ [u + q]).getD i 0) else 0)) := by
                intro f W y h1 h2 h3
                refine n3_same h1 fun i hi => ?_
                rw [h2 i hi]
                by_cases e : i = j
                · rw [if_pos e, if_pos (by omega), h3, e, List.getD_eq_getElem?_getD, List.getElem?_append_right (by rw [HXL.out]; exact Nat.le_refl _), HXL.out]
                  simp
                · rw [if_neg e]
                  by_cases e2 : i < j
                  · rw [if_pos e2, if_pos (by omega), List.getD_eq_getElem?_getD, List.getD_eq_getElem?_getD, List.getElem?_append_left (by rw [HXL.out]; exact e2)]
                  · rw [if_neg e2, if_neg (by omega)]
              have HXL2 : Hid ((xs ++ [u + q]).length = j + 1) := by
                show (xs ++ [u + q]).length = j + 1
                rw [List.length_append, HXL.out]; rfl
              generalize hz : u + q = z at *
              have hzi : (u : Int) + (q : Int) = (z : Int) := by omega
              have hzb : z < 4503599627370496 := by omega
              have HZ := hideIt hz
              clear hz
              by_cases hodd : z % 2 = 1
              · have ho1 : (((z : Int) % 2) == 1) = true := by simp; omega
                have HV : Hid (wrap64 (-(((z : Int) + 1).tdiv 2)) = unzN z) := unz_odd hodd hzb
                go_wp2
                go_roundw
                case rel => exact ⟨j + 1, a + 1, xs ++ [z], by omega, by go_num, by go_num, by omega, by omega, HXL2.out, HF.out, HM.out _ _ _ ((HN.out.set j hj3 _).set j hj3 _) (fun i hi => by split <;> rfl) HV.out, (HE.out.far (by omega)).far (by omega), below_set2 (below_set2 HX.out (by omega)) (by omega)⟩
                case measure => simp [intOf]; omega
              · have ho1 : (((z : Int) % 2) == 1) = false := by simp; omega
                have HV : Hid ((z : Int) / 2 = unzN z) := unz_even hodd
                go_wp2
                go_roundw
                case rel => exact ⟨j + 1, a + 1, xs ++ [z], by omega, by go_num, by go_num, by omega, by omega, HXL2.out, HF.out, HM.out _ _ _ (HN.out.set j hj3 _) (fun i hi => rfl) HV.out, HE.out.far (by omega), below_set2 HX.out (by omega)⟩
                case measure => simp [intOf]; omega
            · rw [if_neg hx8] at HD
              have hx8' : ¬ (x : Int) < 128 := by omega
              go_wp2
              go_round
              case rel => exact ⟨a + 1, u + q, i + 1, by go_num, val_int (by omega), val_int (by rw [Nat.pow_succ, ← HPI.out]; omega), by omega, by omega, by omega, by rw [Nat.pow_succ, ← HPI.out]; exact up128 hu HQ1.out, HD.out⟩
              case measure => simp [intOf]; omega
          · have hPv := hP3 hi5
            have HRR : Hid (rdD 0 0 (l.drop at0) = none) := by
              show rdD 0 0 (l.drop at0) = none
              rw [HR.out, List.drop_eq_getElem_cons hlt, rdD, ← HPI.out, if_pos (by omega)]
            have HV := hideIt (HNone.out (by rw [HRD.out, show 3 - j = (3 - (j + 1)) + 1 by omega]; exact rds_none HRR.out))
            clear hP2 hP3
            subst hPv
            go_wp2
            exact bodyPost_ret (v := .tuple #[.agg #[.int .i64 0, .int .i64 0, .int .i64 0, .int .i64 0, .int .i64 0, .int .i64 0, .int .i64 0], .bool false]) (by simp [results, Try.results16, go_sem, k0, k1, k2, k3, k4, k5, k6]) rfl ⟨by rw [HV.out], bel7 HX.out _ _ _ _ _ _ _⟩
        · have hne : ((a : Int) == (l.length : Int)) = true := by simp; omega
          have HRR : Hid (rdD 0 0 (l.drop at0) = none) := by
            show rdD 0 0 (l.drop at0) = none
            rw [HR.out, List.drop_eq_nil_of_le (by omega)]; rfl
          have HV := hideIt (HNone.out (by rw [HRD.out, show 3 - j = (3 - (j + 1)) + 1 by omega]; exact rds_none HRR.out))
          clear hP2 hP3
          go_wp2
          exact bodyPost_ret (v := .tuple #[.agg #[.int .i64 0, .int .i64 0, .int .i64 0, .int .i64 0, .int .i64 0, .int .i64 0, .int .i64 0], .bool false]) (by simp [results, Try.results16, go_sem, k0, k1, k2, k3, k4, k5, k6]) rfl ⟨by rw [HV.out], bel7 HX.out _ _ _ _ _ _ _⟩
    · obtain rfl : j = 3 := by omega
      have hXS : rdsD 3 [] (l.drop 4) = some (xs, l.drop at0) := HRD.out
      have HDC := hideIt (readD_some h4 hXS)
      have g0 : ∀ i (h : i < l.length), l.getD i 0 = l[i] := fun i h => by rw [List.getD_eq_getElem?_getD, List.getElem?_eq_getElem h]; rfl
      have c0 : wr.cell? ⟨b, o, none⟩ = some (.int .u8 (l.getD 0 0 : Nat)) := (HX.out.cell (p := ⟨b, o, none⟩) hb).trans ((HA.out 0 (by omega)).trans (by rw [g0 0 (by omega)]))
      have c1 : wr.cell? ⟨b, o + 1, none⟩ = some (.int .u8 (l.getD 1 0 : Nat)) := (HX.out.cell (p := ⟨b, o + 1, none⟩) hb).trans ((HA.out 1 (by omega)).trans (by rw [g0 1 (by omega)]))
      have c2 : wr.cell? ⟨b, o + 2, none⟩ = some (.int .u8 (l.getD 2 0 : Nat)) := (HX.out.cell (p := ⟨b, o + 2, none⟩) hb).trans ((HA.out 2 (by omega)).trans (by rw [g0 2 (by omega)]))
      have c3 : wr.cell? ⟨b, o + 3, none⟩ = some (.int .u8 (l.getD 3 0 : Nat)) := (HX.out.cell (p := ⟨b, o + 3, none⟩) hb).trans ((HA.out 3 (by omega)).trans (by rw [g0 3 (by omega)]))
      have d0 : wr.cell? ⟨w.heap.size + 1, 0, none⟩ = some (.int .i64 (unzN (xs.getD 0 0))) := HN.out.at' 0 (by omega)
      have d1 : wr.cell? ⟨w.heap.size + 1, 1, none⟩ = some (.int .i64 (unzN (xs.getD 1 0))) := HN.out.at' 1 (by omega)
      have d2 : wr.cell? ⟨w.heap.size + 1, 2, none⟩ = some (.int .i64 (unzN (xs.getD 2 0))) := HN.out.at' 2 (by omega)
      have hBz := HN.out.lt
      have hbz : b < wr.heap.size := by omega
      obtain ⟨e, he⟩ : ∃ e, e = evD l xs := ⟨_, rfl⟩
      rw [← he] at HDC
      have e0 : ((l.getD 0 0 : Nat) : Int) = e.p := by rw [he]; rfl
      have e1 : ((l.getD 1 0 : Nat) : Int) = e.t := by rw [he]; rfl
      have e2 : ((l.getD 2 0 : Nat) : Int) = e.k := by rw [he]; rfl
      have e3 : ((l.getD 3 0 : Nat) : Int) = e.d := by rw [he]; rfl
      have e4 : unzN (xs.getD 0 0) = e.a := by rw [he]; rfl
      have e5 : unzN (xs.getD 1 0) = e.b := by rw [he]; rfl
      have e6 : unzN (xs.getD 2 0) = e.r := by rw [he]; rfl
      rw [e4] at d0
      rw [e5] at d1
      rw [e6] at d2
      rw [e0] at c0
      rw [e1] at c1
      rw [e2] at c2
      rw [e3] at c3
      have u8 : ∀ i, (h : i < l.length) → l[i] < 256 := fun i h => hB.at h
      have w0 : IntKind.i64.wrap e.p = e.p := by rw [← e0, g0 0 (by omega), IntKind.wrap_i64]; have := u8 0 (by omega); omega
      have w1 : IntKind.i64.wrap e.t = e.t := by rw [← e1, g0 1 (by omega), IntKind.wrap_i64]; have := u8 1 (by omega); omega
      have w2 : IntKind.i64.wrap e.k = e.k := by rw [← e2, g0 2 (by omega), IntKind.wrap_i64]; have := u8 2 (by omega); omega
      have w3 : IntKind.i64.wrap e.d = e.d := by rw [← e3, g0 3 (by omega), IntKind.wrap_i64]; have := u8 3 (by omega); omega
      have HQ : Hid (ByQ wr (.slice (some ⟨b, o, none⟩) l.length c) l) := ⟨hB, Or.inr ⟨b, o, c, rfl, hc, hbz, HA.out.below hb HX.out⟩⟩
      clear e0 e1 e2 e3 e4 e5 e6 he g0 u8 hXS HRD HXL HNone HN
      obtain ⟨p, t, k, d, na, nb, nr⟩ := e
      simp only at c0 c1 c2 c3 d0 d1 d2 w0 w1 w2 w3
      have z0 : 0 < l.length := by omega
      have z1 : (1 : Int) < (l.length : Int) := by omega
      have z2 : (2 : Int) < (l.length : Int) := by omega
      have z3 : (3 : Int) < (l.length : Int) := by omega
      go_wp2_with fail
      refine wp_region_held_drew (S := fun W => Below wr.heap.size wr W) (by kernel_rfl) (below_drewN (Below.refl _ _) 1) (fun hHeld => ?_)
      refine wpAnyH_take (i := 0) (v := ?_) rfl (by kernel_rfl) (by kernel_rfl) (by kernel_rfl) (fun _ _ _ h => h) (Or.inl ⟨by rfl, ?_⟩) (by assumption) ?_
      rotate_left 1
      · intro wz hwz
        go_simp
        all_goals with_reducible rfl
      simp only [Act.put, List.setIfInBounds_toArray, List.set_cons_zero, List.set_cons_succ, List.getElem_toArray, List.getElem_cons_zero]
      refine wpAnyH_take (i := 1) (v := ?_) rfl (by kernel_rfl) (by kernel_rfl) (by kernel_rfl) (fun _ _ _ h => h) (Or.inl ⟨by rfl, ?_⟩) (by assumption) ?_
      rotate_left 1
      · intro wz hwz
        go_simp
        all_goals with_reducible rfl
      simp only [Act.put, List.setIfInBounds_toArray, List.set_cons_zero, List.set_cons_succ, List.getElem_toArray, List.getElem_cons_zero, List.getElem_cons_succ]
      refine wpAnyH_take (i := 2) (v := ?_) rfl (by kernel_rfl) (by kernel_rfl) (by kernel_rfl) (fun _ _ _ h => h) (Or.inl ⟨by rfl, ?_⟩) (by assumption) ?_
      rotate_left 1
      · intro wz hwz
        have hqc0 := (hwz.cell (p := ⟨b, o, none⟩) hbz).trans c0
        go_simp
        all_goals with_reducible rfl
      simp only [Act.put, List.setIfInBounds_toArray, List.set_cons_zero, List.set_cons_succ, List.getElem_toArray, List.getElem_cons_zero, List.getElem_cons_succ]
      refine wpAnyH_take (i := 3) (v := ?_) rfl (by kernel_rfl) (by kernel_rfl) (by kernel_rfl) (fun _ _ _ h => h) (Or.inl ⟨by rfl, ?_⟩) (by assumption) ?_
      rotate_left 1
      · intro wz hwz
        go_simp
        all_goals with_reducible rfl
      simp only [Act.put, List.setIfInBounds_toArray, List.set_cons_zero, List.set_cons_succ, List.getElem_toArray, List.getElem_cons_zero, List.getElem_cons_succ]
      refine wpAnyH_take (i := 4) (v := ?_) rfl (by kernel_rfl) (by kernel_rfl) (by kernel_rfl) (fun _ _ _ h => h) (Or.inl ⟨by rfl, ?_⟩) (by assumption) ?_
      rotate_left 1
      · intro wz hwz
        go_simp
        all_goals with_reducible rfl
      simp only [Act.put, List.setIfInBounds_toArray, List.set_cons_zero, List.set_cons_succ, List.getElem_toArray, List.getElem_cons_zero, List.getElem_cons_succ]
      refine wpAnyH_take (i := 5) (v := ?_) rfl (by kernel_rfl) (by kernel_rfl) (by kernel_rfl) (fun _ _ _ h => h) (Or.inl ⟨by rfl, ?_⟩) (by assumption) ?_
      rotate_left 1
      · intro wz hwz
        go_simp
        all_goals with_reducible rfl
      simp only [Act.put, List.setIfInBounds_toArray, List.set_cons_zero, List.set_cons_succ, List.getElem_toArray, List.getElem_cons_zero, List.getElem_cons_succ]
      refine wpAnyH_take (i := 6) (v := ?_) rfl (by kernel_rfl) (by kernel_rfl) (by kernel_rfl) (fun _ _ _ h => h) (Or.inl ⟨by rfl, ?_⟩) (by assumption) ?_
      rotate_left 1
      · intro wz hwz
        have hqc1 := (hwz.cell (p := ⟨b, o + 1, none⟩) hbz).trans c1
        go_simp
        all_goals with_reducible rfl
      simp only [Act.put, List.setIfInBounds_toArray, List.set_cons_zero, List.set_cons_succ, List.getElem_toArray, List.getElem_cons_zero, List.getElem_cons_succ]
      refine wpAnyH_take (i := 7) (v := ?_) rfl (by kernel_rfl) (by kernel_rfl) (by kernel_rfl) (fun _ _ _ h => h) (Or.inl ⟨by rfl, ?_⟩) (by assumption) ?_
      rotate_left 1
      · intro wz hwz
        go_simp
        all_goals with_reducible rfl
      simp only [Act.put, List.setIfInBounds_toArray, List.set_cons_zero, List.set_cons_succ, List.getElem_toArray, List.getElem_cons_zero, List.getElem_cons_succ]
      refine wpAnyH_take (i := 8) (v := ?_) rfl (by kernel_rfl) (by kernel_rfl) (by kernel_rfl) (fun _ _ _ h => h) (Or.inl ⟨by rfl, ?_⟩) (by assumption) ?_
      rotate_left 1
      · intro wz hwz
        go_simp
        all_goals with_reducible rfl
      simp only [Act.put, List.setIfInBounds_toArray, List.set_cons_zero, List.set_cons_succ, List.getElem_toArray, List.getElem_cons_zero, List.getElem_cons_succ]
      refine wpAnyH_take (i := 9) (v := ?_) rfl (by kernel_rfl) (by kernel_rfl) (by kernel_rfl) (fun _ _ _ h => h) (Or.inl ⟨by rfl, ?_⟩) (by assumption) ?_
      rotate_left 1
      · intro wz hwz
        go_simp
        all_goals with_reducible rfl
      simp only [Act.put, List.setIfInBounds_toArray, List.set_cons_zero, List.set_cons_succ, List.getElem_toArray, List.getElem_cons_zero, List.getElem_cons_succ]
      refine wpAnyH_take (i := 10) (v := ?_) rfl (by kernel_rfl) (by kernel_rfl) (by kernel_rfl) (fun _ _ _ h => h) (Or.inl ⟨by rfl, ?_⟩) (by assumption) ?_
      rotate_left 1
      · intro wz hwz
        have hqc2 := (hwz.cell (p := ⟨b, o + 2, none⟩) hbz).trans c2
        go_simp
        all_goals with_reducible rfl
      simp only [Act.put, List.setIfInBounds_toArray, List.set_cons_zero, List.set_cons_succ, List.getElem_toArray, List.getElem_cons_zero, List.getElem_cons_succ]
      refine wpAnyH_take (i := 11) (v := ?_) rfl (by kernel_rfl) (by kernel_rfl) (by kernel_rfl) (fun _ _ _ h => h) (Or.inl ⟨by rfl, ?_⟩) (by assumption) ?_
      rotate_left 1
      · intro wz hwz
        go_simp
        all_goals with_reducible rfl
      simp only [Act.put, List.setIfInBounds_toArray, List.set_cons_zero, List.set_cons_succ, List.getElem_toArray, List.getElem_cons_zero, List.getElem_cons_succ]
      refine wpAnyH_take (i := 12) (v := ?_) rfl (by kernel_rfl) (by kernel_rfl) (by kernel_rfl) (fun _ _ _ h => h) (Or.inl ⟨by rfl, ?_⟩) (by assumption) ?_
      rotate_left 1
      · intro wz hwz
        go_simp
        all_goals with_reducible rfl
      simp only [Act.put, List.setIfInBounds_toArray, List.set_cons_zero, List.set_cons_succ, List.getElem_toArray, List.getElem_cons_zero, List.getElem_cons_succ]
      refine wpAnyH_take (i := 13) (v := ?_) rfl (by kernel_rfl) (by kernel_rfl) (by kernel_rfl) (fun _ _ _ h => h) (Or.inl ⟨by rfl, ?_⟩) (by assumption) ?_
      rotate_left 1
      · intro wz hwz
        go_simp
        all_goals with_reducible rfl
      simp only [Act.put, List.setIfInBounds_toArray, List.set_cons_zero, List.set_cons_succ, List.getElem_toArray, List.getElem_cons_zero, List.getElem_cons_succ]
      refine wpAnyH_take (i := 14) (v := ?_) rfl (by kernel_rfl) (by kernel_rfl) (by kernel_rfl) (fun _ _ _ h => h) (Or.inl ⟨by rfl, ?_⟩) (by assumption) ?_
      rotate_left 1
      · intro wz hwz
        have hqc3 := (hwz.cell (p := ⟨b, o + 3, none⟩) hbz).trans c3
        go_simp
        all_goals with_reducible rfl
      simp only [Act.put, List.setIfInBounds_toArray, List.set_cons_zero, List.set_cons_succ, List.getElem_toArray, List.getElem_cons_zero, List.getElem_cons_succ]
      refine wpAnyH_take (i := 15) (v := ?_) rfl (by kernel_rfl) (by kernel_rfl) (by kernel_rfl) (fun _ _ _ h => h) (Or.inl ⟨by rfl, ?_⟩) (by assumption) ?_
      rotate_left 1
      · intro wz hwz
        go_simp
        all_goals with_reducible rfl
      simp only [Act.put, List.setIfInBounds_toArray, List.set_cons_zero, List.set_cons_succ, List.getElem_toArray, List.getElem_cons_zero, List.getElem_cons_succ]
      refine wpAnyH_take (i := 16) (v := ?_) rfl (by kernel_rfl) (by kernel_rfl) (by kernel_rfl) (fun _ _ _ h => h) (Or.inl ⟨by rfl, ?_⟩) (by assumption) ?_
      rotate_left 1
      · intro wz hwz
        go_simp
        all_goals with_reducible rfl
      simp only [Act.put, List.setIfInBounds_toArray, List.set_cons_zero, List.set_cons_succ, List.getElem_toArray, List.getElem_cons_zero, List.getElem_cons_succ]
      refine wpAnyH_take (i := 17) (v := ?_) rfl (by kernel_rfl) (by kernel_rfl) (by kernel_rfl) (fun _ _ _ h => h) (Or.inl ⟨by rfl, ?_⟩) (by assumption) ?_
      rotate_left 1
      · intro wz hwz
        have hqd0 := (hwz.cell (p := ⟨w.heap.size + 1, 0, none⟩) hBz).trans d0
        go_simp
        all_goals with_reducible rfl
      simp only [Act.put, List.setIfInBounds_toArray, List.set_cons_zero, List.set_cons_succ, List.getElem_toArray, List.getElem_cons_zero, List.getElem_cons_succ]
      refine wpAnyH_take (i := 18) (v := ?_) rfl (by kernel_rfl) (by kernel_rfl) (by kernel_rfl) (fun _ _ _ h => h) (Or.inl ⟨by rfl, ?_⟩) (by assumption) ?_
      rotate_left 1
      · intro wz hwz
        go_simp
        all_goals with_reducible rfl
      simp only [Act.put, List.setIfInBounds_toArray, List.set_cons_zero, List.set_cons_succ, List.getElem_toArray, List.getElem_cons_zero, List.getElem_cons_succ]
      refine wpAnyH_take (i := 19) (v := ?_) rfl (by kernel_rfl) (by kernel_rfl) (by kernel_rfl) (fun _ _ _ h => h) (Or.inl ⟨by rfl, ?_⟩) (by assumption) ?_
      rotate_left 1
      · intro wz hwz
        have hqd1 := (hwz.cell (p := ⟨w.heap.size + 1, 1, none⟩) hBz).trans d1
        go_simp
        all_goals with_reducible rfl
      simp only [Act.put, List.setIfInBounds_toArray, List.set_cons_zero, List.set_cons_succ, List.getElem_toArray, List.getElem_cons_zero, List.getElem_cons_succ]
      refine wpAnyH_take (i := 20) (v := ?_) rfl (by kernel_rfl) (by kernel_rfl) (by kernel_rfl) (fun _ _ _ h => h) (Or.inl ⟨by rfl, ?_⟩) (by assumption) ?_
      rotate_left 1
      · intro wz hwz
        go_simp
        all_goals with_reducible rfl
      simp only [Act.put, List.setIfInBounds_toArray, List.set_cons_zero, List.set_cons_succ, List.getElem_toArray, List.getElem_cons_zero, List.getElem_cons_succ]
      refine wpAnyH_take (i := 21) (v := ?_) rfl (by kernel_rfl) (by kernel_rfl) (by kernel_rfl) (fun _ _ _ h => h) (Or.inl ⟨by rfl, ?_⟩) (by assumption) ?_
      rotate_left 1
      · intro wz hwz
        have hqd2 := (hwz.cell (p := ⟨w.heap.size + 1, 2, none⟩) hBz).trans d2
        go_simp
        all_goals with_reducible rfl
      simp only [Act.put, List.setIfInBounds_toArray, List.set_cons_zero, List.set_cons_succ, List.getElem_toArray, List.getElem_cons_zero, List.getElem_cons_succ]
      refine wpAnyH_take (i := 22) (v := ?_) rfl (by kernel_rfl) (by kernel_rfl) (by kernel_rfl) (fun _ _ _ h => h) (Or.inl ⟨by rfl, ?_⟩) (by assumption) ?_
      rotate_left 1
      · intro wz hwz
        go_simp
        all_goals with_reducible rfl
      simp only [Act.put, List.setIfInBounds_toArray, List.set_cons_zero, List.set_cons_succ, List.getElem_toArray, List.getElem_cons_zero, List.getElem_cons_succ]
      refine wpAnyH_ready (rs := [23]) (by kernel_rfl) (by simp) (AllReadyH.cons rfl (fun K hK => ?_) AllReadyH.nil)
      go_simp
      refine hK.out _ _ ?_ (fun hHeld => ?_)
      · exact below_alloc (below_drewN (Below.refl wr.heap.size wr) 1) _
      clear hK K
      refine wpAnyH_ready (rs := [24]) (by kernel_rfl) (by simp) (AllReadyH.cons rfl (fun K hK => ?_) AllReadyH.nil)
      go_simp
      refine hK.out _ _ ?_ (fun hHeld => ?_)
      · exact below_alloc (below_drewN (Below.refl wr.heap.size wr) 1) _
      clear hK K
      refine wpAnyH_done (by kernel_rfl) ?_ _
      go_wp2_with fail
      obtain ⟨W2, hW2⟩ : ∃ W2, W2 = (wr.alloc (.cells #[.int .i64 p, .int .i64 t, .int .i64 k, .int .i64 d, .int .i64 na, .int .i64 nb, .int .i64 nr] 50)).drew := ⟨_, rfl⟩
      rw [← hW2]
      have hb2 : Below wr.heap.size wr W2 := by rw [hW2]; exact below_drewN (below_alloc (Below.refl _ _) _) 1
      have hv2 : Ev7 W2 wr.heap.size ⟨p, t, k, d, na, nb, nr⟩ := by rw [hW2]; exact (ev7_new wr ⟨p, t, k, d, na, nb, nr⟩ 50).low (below_drewN (Below.refl _ _) 1)
      have HB2 := hideIt (below_join HX.out hb2)
      have HV2 := hideIt hv2
      have HZ2 := hideIt (HE.out.below HE.out.lt hb2)
      have HQ2 := hideIt (HQ.out.below hb2)
      clear hb2 hv2 hW2 c0 c1 c2 c3 d0 d1 d2 w0 w1 w2 w3 hBz hbz HX HE HQ hHeld
      by_cases hend : at0 = l.length
      · have hne : ((at0 : Int) != (l.length : Int)) = false := by simp [hend]
        have hd0 : l.drop at0 = [] := List.drop_eq_nil_of_le (by omega)
        have HCk := hideIt (fun W => refCheck_any p t k d na nb nr W)
        have HFN : Hid (faultN p t k d na nb nr = fltE ⟨p, t, k, d, na, nb, nr⟩) := rfl
        rw [HFN.out] at HCk
        rw [hd0] at HDC
        clear HFN hd0
        have HEND := hideIt hend
        clear hend
        by_cases hf : fltE ⟨p, t, k, d, na, nb, nr⟩ = 0
        · have hok := okE_of hf
          have HBy : Hid (Byt (encL ⟨p, t, k, d, na, nb, nr⟩)) := encL_byte hok
          have HEn : Hid (∀ W, Calls Try.prog 27 #[.agg #[.int .i64 p, .int .i64 t, .int .i64 k, .int .i64 d, .int .i64 na, .int .i64 nb, .int .i64 nr]] W fun r w' => ∃ v, r = .returned v ∧ ByQ w' v (encL ⟨p, t, k, d, na, nb, nr⟩) ∧ Below W.heap.size W w') := by
            intro W
            refine Calls.mono (refEncode_any ⟨p, t, k, d, na, nb, nr⟩ W hok) ?_
            rintro y w' ⟨v, rfl, ho, hb⟩
            exact ⟨v, rfl, own_byq HBy.out ho, hb⟩
          have HSB := hideIt (strB_beq HBy.out hB)
          rw [hf] at HCk
          by_cases hee : encL ⟨p, t, k, d, na, nb, nr⟩ = l
          · have HF : Hid (decDV l = .tuple #[.agg #[.int .i64 p, .int .i64 t, .int .i64 k, .int .i64 d, .int .i64 na, .int .i64 nb, .int .i64 nr], .bool true]) := by
              show decDV l = _
              unfold decDV; rw [HDC.out, if_pos ⟨rfl, hf, hee⟩]; rfl
            rw [decide_eq_true hee] at HSB
            clear hee hok HBy hf HDC
            generalize encL ⟨p, t, k, d, na, nb, nr⟩ = L at *
            refine wp_region_held_drew (S := fun W => Below W2.heap.size W2 W) (by kernel_rfl) (below_drewN (Below.refl _ _) 1) (fun hHeld => ?_)
            refine wpAnyH_take (i := 0) (v := ?_) rfl (by kernel_rfl) (by kernel_rfl) (by kernel_rfl) (fun _ _ _ h => h) (Or.inl ⟨by rfl, ?_⟩) (by assumption) ?_
            rotate_left 1
            · intro wz hwz
              go_simp
              all_goals with_reducible rfl
            simp only [Act.put, List.setIfInBounds_toArray, List.set_cons_zero, List.set_cons_succ, List.getElem_toArray, List.getElem_cons_zero]
            refine wpAnyH_take (i := 1) (v := ?_) rfl (by kernel_rfl) (by kernel_rfl) (by kernel_rfl) (fun _ _ _ h => h) (Or.inl ⟨by rfl, ?_⟩) (by assumption) ?_
            rotate_left 1
            · intro wz hwz
              go_simp
              all_goals with_reducible rfl
            simp only [Act.put, List.setIfInBounds_toArray, List.set_cons_zero, List.set_cons_succ, List.getElem_toArray, List.getElem_cons_zero, List.getElem_cons_succ]
            refine wpAnyH_take (i := 2) (v := ?_) rfl (by kernel_rfl) (by kernel_rfl) (by kernel_rfl) (fun _ _ _ h => h) (Or.inl ⟨by rfl, ?_⟩) (by assumption) ?_
            rotate_left 1
            · intro wz hwz
              go_simp
              all_goals with_reducible rfl
            simp only [Act.put, List.setIfInBounds_toArray, List.set_cons_zero, List.set_cons_succ, List.getElem_toArray, List.getElem_cons_zero, List.getElem_cons_succ]
            refine wpAnyH_take (i := 3) (v := ?_) rfl (by kernel_rfl) (by kernel_rfl) (by kernel_rfl) (fun _ _ _ h => h) (Or.inl ⟨by rfl, ?_⟩) (by assumption) ?_
            rotate_left 1
            · intro wz hwz
              go_simp
              all_goals with_reducible rfl
            simp only [Act.put, List.setIfInBounds_toArray, List.set_cons_zero, List.set_cons_succ, List.getElem_toArray, List.getElem_cons_zero, List.getElem_cons_succ]
            refine wpAnyH_take (i := 4) (v := ?_) rfl (by kernel_rfl) (by kernel_rfl) (by kernel_rfl) (fun _ _ _ h => h) (Or.inl ⟨by rfl, ?_⟩) (by assumption) ?_
            rotate_left 1
            · intro wz hwz
              go_simp
              all_goals with_reducible rfl
            simp only [Act.put, List.setIfInBounds_toArray, List.set_cons_zero, List.set_cons_succ, List.getElem_toArray, List.getElem_cons_zero, List.getElem_cons_succ]
            refine wpAnyH_take (i := 5) (v := ?_) rfl (by kernel_rfl) (by kernel_rfl) (by kernel_rfl) (fun _ _ _ h => h) (Or.inl ⟨by rfl, ?_⟩) (by assumption) ?_
            rotate_left 1
            · intro wz hwz
              obtain ⟨q0, q1, q2, q3, q4, q5, q6, _⟩ := HV2.out.low hwz
              go_simp
              all_goals with_reducible rfl
            simp only [Act.put, List.setIfInBounds_toArray, List.set_cons_zero, List.set_cons_succ, List.getElem_toArray, List.getElem_cons_zero, List.getElem_cons_succ]
            refine wpAnyH_ready (rs := [6]) (by kernel_rfl) (by simp) (AllReadyH.cons rfl (fun K hK => ?_) AllReadyH.nil)
            go_simp
            refine (HCk.out _).mono ?_
            rintro x w3 ⟨rfl, hb3⟩
            have hb23 : Below W2.heap.size W2 w3 := below_join (below_drewN (Below.refl _ _) 1) hb3
            clear hb3
            refine hK.out _ _ ?_ (fun hHeld => ?_)
            · exact hb23
            clear hK K
            refine wpAnyH_take (i := 7) (v := ?_) rfl (by kernel_rfl) (by kernel_rfl) (by kernel_rfl) (fun _ _ _ h => h) (Or.inl ⟨by rfl, ?_⟩) (by assumption) ?_
            rotate_left 1
            · intro wz hwz
              go_simp
              all_goals with_reducible rfl
            simp only [Act.put, List.setIfInBounds_toArray, List.set_cons_zero, List.set_cons_succ, List.getElem_toArray, List.getElem_cons_zero, List.getElem_cons_succ]
            refine wpAnyH_take (i := 8) (v := ?_) rfl (by kernel_rfl) (by kernel_rfl) (by kernel_rfl) (fun _ _ _ h => h) (Or.inl ⟨by rfl, ?_⟩) (by assumption) ?_
            rotate_left 1
            · intro wz hwz
              go_simp
              all_goals with_reducible rfl
            simp only [Act.put, List.setIfInBounds_toArray, List.set_cons_zero, List.set_cons_succ, List.getElem_toArray, List.getElem_cons_zero, List.getElem_cons_succ]
            refine wpAnyH_take (i := 9) (v := ?_) rfl (by kernel_rfl) (by kernel_rfl) (by kernel_rfl) (fun _ _ _ h => h) (Or.inl ⟨by rfl, ?_⟩) (by assumption) ?_
            rotate_left 1
            · intro wz hwz
              go_simp
              all_goals with_reducible rfl
            simp only [Act.put, List.setIfInBounds_toArray, List.set_cons_zero, List.set_cons_succ, List.getElem_toArray, List.getElem_cons_zero, List.getElem_cons_succ]
            refine wpAnyH_take (i := 10) (v := ?_) rfl (by kernel_rfl) (by kernel_rfl) (by kernel_rfl) (fun _ _ _ h => h) (Or.inl ⟨by rfl, ?_⟩) (by assumption) ?_
            rotate_left 1
            · intro wz hwz
              obtain ⟨q0, q1, q2, q3, q4, q5, q6, _⟩ := HV2.out.low hwz
              go_simp
              all_goals with_reducible rfl
            simp only [Act.put, List.setIfInBounds_toArray, List.set_cons_zero, List.set_cons_succ, List.getElem_toArray, List.getElem_cons_zero, List.getElem_cons_succ]
            refine wpAnyH_take (i := 13) (v := ?_) rfl (by kernel_rfl) (by kernel_rfl) (by kernel_rfl) (fun _ _ _ h => h) (Or.inl ⟨by rfl, ?_⟩) (by assumption) ?_
            rotate_left 1
            · intro wz hwz
              go_simp
              all_goals with_reducible rfl
            simp only [Act.put, List.setIfInBounds_toArray, List.set_cons_zero, List.set_cons_succ, List.getElem_toArray, List.getElem_cons_zero, List.getElem_cons_succ]
            refine wpAnyH_take (i := 14) (v := ?_) rfl (by kernel_rfl) (by kernel_rfl) (by kernel_rfl) (fun _ _ _ h => h) (Or.inl ⟨by rfl, ?_⟩) (by assumption) ?_
            rotate_left 1
            · intro wz hwz
              have hst := (HQ2.out.below hwz).str
              go_simp
              all_goals with_reducible rfl
            simp only [Act.put, List.setIfInBounds_toArray, List.set_cons_zero, List.set_cons_succ, List.getElem_toArray, List.getElem_cons_zero, List.getElem_cons_succ]
            refine wpAnyH_ready (rs := [11]) (by kernel_rfl) (by simp) (AllReadyH.cons rfl (fun K hK => ?_) AllReadyH.nil)
            go_simp
            refine (HEn.out _).mono ?_
            rintro x w4 ⟨v4, rfl, hq4, hb4⟩
            have hb24 : Below W2.heap.size W2 w4 := below_join hHeld hb4
            have HQ4 := hideIt hq4
            have HB4 := hideIt hb24
            clear hb4 hq4
            refine hK.out _ _ ?_ (fun hHeld => ?_)
            · exact hb24
            clear hK K
            refine wpAnyH_more (S' := fun W => Below w4.heap.size w4 W) (fun W h => below_join HB4.out h) _ _ _ _ ?_
            have hH4 := Below.refl w4.heap.size w4
            clear hHeld
            refine wpAnyH_take (i := 12) (v := ?_) rfl (by kernel_rfl) (by kernel_rfl) (by kernel_rfl) (fun _ _ _ h => h) (Or.inl ⟨by rfl, ?_⟩) (by assumption) ?_
            rotate_left 1
            · intro wz hwz
              have hst := (HQ4.out.below hwz).str
              go_simp
              all_goals with_reducible rfl
            simp only [Act.put, List.setIfInBounds_toArray, List.set_cons_zero, List.set_cons_succ, List.getElem_toArray, List.getElem_cons_zero, List.getElem_cons_succ]
            refine wpAnyH_take (i := 15) (v := ?_) rfl (by kernel_rfl) (by kernel_rfl) (by kernel_rfl) (fun _ _ _ h => h) (Or.inl ⟨by rfl, ?_⟩) (by assumption) ?_
            rotate_left 1
            · intro wz hwz
              have hss := HSB.out; have hsn : ((strB L).toList != (strB l).toList) = false := by unfold bne; rw [hss]; rfl
              go_simp
              all_goals with_reducible rfl
            simp only [Act.put, List.setIfInBounds_toArray, List.set_cons_zero, List.set_cons_succ, List.getElem_toArray, List.getElem_cons_zero, List.getElem_cons_succ]
            refine wpAnyH_take (i := 16) (v := ?_) rfl (by kernel_rfl) (by kernel_rfl) (by kernel_rfl) (fun _ _ _ h => h) (Or.inl ⟨by rfl, ?_⟩) (by assumption) ?_
            rotate_left 1
            · intro wz hwz
              go_simp
              all_goals with_reducible rfl
            simp only [Act.put, List.setIfInBounds_toArray, List.set_cons_zero, List.set_cons_succ, List.getElem_toArray, List.getElem_cons_zero, List.getElem_cons_succ]
            refine wpAnyH_done (by kernel_rfl) ?_ _
            obtain ⟨k0, k1, k2, k3, k4, k5, k6, kf, klt⟩ := HZ2.out.below HZ2.out.lt HB4.out
            obtain ⟨q0, q1, q2, q3, q4, q5, q6, qlt⟩ := HV2.out.low HB4.out
            simp only [zeroE] at k0 k1 k2 k3 k4 k5 k6
            go_wp2
            exact bodyPost_ret (v := .tuple #[.agg #[.int .i64 p, .int .i64 t, .int .i64 k, .int .i64 d, .int .i64 na, .int .i64 nb, .int .i64 nr], .bool true]) (by simp [results, Try.results16, go_sem, k0, k1, k2, k3, k4, k5, k6]) rfl ⟨by rw [HF.out], bel7 (below_join HB2.out HB4.out) _ _ _ _ _ _ _⟩
          · have HF : Hid (decDV l = .tuple #[.agg #[.int .i64 0, .int .i64 0, .int .i64 0, .int .i64 0, .int .i64 0, .int .i64 0, .int .i64 0], .bool false]) := by
              show decDV l = _
              unfold decDV; rw [HDC.out, if_neg (fun h => hee h.2.2)]; rfl
            rw [decide_eq_false hee] at HSB
            clear hee hok HBy hf HDC
            generalize encL ⟨p, t, k, d, na, nb, nr⟩ = L at *
            refine wp_region_held_drew (S := fun W => Below W2.heap.size W2 W) (by kernel_rfl) (below_drewN (Below.refl _ _) 1) (fun hHeld => ?_)
            refine wpAnyH_take (i := 0) (v := ?_) rfl (by kernel_rfl) (by kernel_rfl) (by kernel_rfl) (fun _ _ _ h => h) (Or.inl ⟨by rfl, ?_⟩) (by assumption) ?_
            rotate_left 1
            · intro wz hwz
              go_simp
              all_goals with_reducible rfl
            simp only [Act.put, List.setIfInBounds_toArray, List.set_cons_zero, List.set_cons_succ, List.getElem_toArray, List.getElem_cons_zero]
            refine wpAnyH_take (i := 1) (v := ?_) rfl (by kernel_rfl) (by kernel_rfl) (by kernel_rfl) (fun _ _ _ h => h) (Or.inl ⟨by rfl, ?_⟩) (by assumption) ?_
            rotate_left 1
            · intro wz hwz
              go_simp
              all_goals with_reducible rfl
            simp only [Act.put, List.setIfInBounds_toArray, List.set_cons_zero, List.set_cons_succ, List.getElem_toArray, List.getElem_cons_zero, List.getElem_cons_succ]
            refine wpAnyH_take (i := 2) (v := ?_) rfl (by kernel_rfl) (by kernel_rfl) (by kernel_rfl) (fun _ _ _ h => h) (Or.inl ⟨by rfl, ?_⟩) (by assumption) ?_
            rotate_left 1
            · intro wz hwz
              go_simp
              all_goals with_reducible rfl
            simp only [Act.put, List.setIfInBounds_toArray, List.set_cons_zero, List.set_cons_succ, List.getElem_toArray, List.getElem_cons_zero, List.getElem_cons_succ]
            refine wpAnyH_take (i := 3) (v := ?_) rfl (by kernel_rfl) (by kernel_rfl) (by kernel_rfl) (fun _ _ _ h => h) (Or.inl ⟨by rfl, ?_⟩) (by assumption) ?_
            rotate_left 1
            · intro wz hwz
              go_simp
              all_goals with_reducible rfl
            simp only [Act.put, List.setIfInBounds_toArray, List.set_cons_zero, List.set_cons_succ, List.getElem_toArray, List.getElem_cons_zero, List.getElem_cons_succ]
            refine wpAnyH_take (i := 4) (v := ?_) rfl (by kernel_rfl) (by kernel_rfl) (by kernel_rfl) (fun _ _ _ h => h) (Or.inl ⟨by rfl, ?_⟩) (by assumption) ?_
            rotate_left 1
            · intro wz hwz
              go_simp
              all_goals with_reducible rfl
            simp only [Act.put, List.setIfInBounds_toArray, List.set_cons_zero, List.set_cons_succ, List.getElem_toArray, List.getElem_cons_zero, List.getElem_cons_succ]
            refine wpAnyH_take (i := 5) (v := ?_) rfl (by kernel_rfl) (by kernel_rfl) (by kernel_rfl) (fun _ _ _ h => h) (Or.inl ⟨by rfl, ?_⟩) (by assumption) ?_
            rotate_left 1
            · intro wz hwz
              obtain ⟨q0, q1, q2, q3, q4, q5, q6, _⟩ := HV2.out.low hwz
              go_simp
              all_goals with_reducible rfl
            simp only [Act.put, List.setIfInBounds_toArray, List.set_cons_zero, List.set_cons_succ, List.getElem_toArray, List.getElem_cons_zero, List.getElem_cons_succ]
            refine wpAnyH_ready (rs := [6]) (by kernel_rfl) (by simp) (AllReadyH.cons rfl (fun K hK => ?_) AllReadyH.nil)
            go_simp
            refine (HCk.out _).mono ?_
            rintro x w3 ⟨rfl, hb3⟩
            have hb23 : Below W2.heap.size W2 w3 := below_join (below_drewN (Below.refl _ _) 1) hb3
            clear hb3
            refine hK.out _ _ ?_ (fun hHeld => ?_)
            · exact hb23
            clear hK K
            refine wpAnyH_take (i := 7) (v := ?_) rfl (by kernel_rfl) (by kernel_rfl) (by kernel_rfl) (fun _ _ _ h => h) (Or.inl ⟨by rfl, ?_⟩) (by assumption) ?_
            rotate_left 1
            · intro wz hwz
              go_simp
              all_goals with_reducible rfl
            simp only [Act.put, List.setIfInBounds_toArray, List.set_cons_zero, List.set_cons_succ, List.getElem_toArray, List.getElem_cons_zero, List.getElem_cons_succ]
            refine wpAnyH_take (i := 8) (v := ?_) rfl (by kernel_rfl) (by kernel_rfl) (by kernel_rfl) (fun _ _ _ h => h) (Or.inl ⟨by rfl, ?_⟩) (by assumption) ?_
            rotate_left 1
            · intro wz hwz
              go_simp
              all_goals with_reducible rfl
            simp only [Act.put, List.setIfInBounds_toArray, List.set_cons_zero, List.set_cons_succ, List.getElem_toArray, List.getElem_cons_zero, List.getElem_cons_succ]
            refine wpAnyH_take (i := 9) (v := ?_) rfl (by kernel_rfl) (by kernel_rfl) (by kernel_rfl) (fun _ _ _ h => h) (Or.inl ⟨by rfl, ?_⟩) (by assumption) ?_
            rotate_left 1
            · intro wz hwz
              go_simp
              all_goals with_reducible rfl
            simp only [Act.put, List.setIfInBounds_toArray, List.set_cons_zero, List.set_cons_succ, List.getElem_toArray, List.getElem_cons_zero, List.getElem_cons_succ]
            refine wpAnyH_take (i := 10) (v := ?_) rfl (by kernel_rfl) (by kernel_rfl) (by kernel_rfl) (fun _ _ _ h => h) (Or.inl ⟨by rfl, ?_⟩) (by assumption) ?_
            rotate_left 1
            · intro wz hwz
              obtain ⟨q0, q1, q2, q3, q4, q5, q6, _⟩ := HV2.out.low hwz
              go_simp
              all_goals with_reducible rfl
            simp only [Act.put, List.setIfInBounds_toArray, List.set_cons_zero, List.set_cons_succ, List.getElem_toArray, List.getElem_cons_zero, List.getElem_cons_succ]
            refine wpAnyH_take (i := 13) (v := ?_) rfl (by kernel_rfl) (by kernel_rfl) (by kernel_rfl) (fun _ _ _ h => h) (Or.inl ⟨by rfl, ?_⟩) (by assumption) ?_
            rotate_left 1
            · intro wz hwz
              go_simp
              all_goals with_reducible rfl
            simp only [Act.put, List.setIfInBounds_toArray, List.set_cons_zero, List.set_cons_succ, List.getElem_toArray, List.getElem_cons_zero, List.getElem_cons_succ]
            refine wpAnyH_take (i := 14) (v := ?_) rfl (by kernel_rfl) (by kernel_rfl) (by kernel_rfl) (fun _ _ _ h => h) (Or.inl ⟨by rfl, ?_⟩) (by assumption) ?_
            rotate_left 1
            · intro wz hwz
              have hst := (HQ2.out.below hwz).str
              go_simp
              all_goals with_reducible rfl
            simp only [Act.put, List.setIfInBounds_toArray, List.set_cons_zero, List.set_cons_succ, List.getElem_toArray, List.getElem_cons_zero, List.getElem_cons_succ]
            refine wpAnyH_ready (rs := [11]) (by kernel_rfl) (by simp) (AllReadyH.cons rfl (fun K hK => ?_) AllReadyH.nil)
            go_simp
            refine (HEn.out _).mono ?_
            rintro x w4 ⟨v4, rfl, hq4, hb4⟩
            have hb24 : Below W2.heap.size W2 w4 := below_join hHeld hb4
            have HQ4 := hideIt hq4
            have HB4 := hideIt hb24
            clear hb4 hq4
            refine hK.out _ _ ?_ (fun hHeld => ?_)
            · exact hb24
            clear hK K
            refine wpAnyH_more (S' := fun W => Below w4.heap.size w4 W) (fun W h => below_join HB4.out h) _ _ _ _ ?_
            have hH4 := Below.refl w4.heap.size w4
            clear hHeld
            refine wpAnyH_take (i := 12) (v := ?_) rfl (by kernel_rfl) (by kernel_rfl) (by kernel_rfl) (fun _ _ _ h => h) (Or.inl ⟨by rfl, ?_⟩) (by assumption) ?_
            rotate_left 1
            · intro wz hwz
              have hst := (HQ4.out.below hwz).str
              go_simp
              all_goals with_reducible rfl
            simp only [Act.put, List.setIfInBounds_toArray, List.set_cons_zero, List.set_cons_succ, List.getElem_toArray, List.getElem_cons_zero, List.getElem_cons_succ]
            refine wpAnyH_take (i := 15) (v := ?_) rfl (by kernel_rfl) (by kernel_rfl) (by kernel_rfl) (fun _ _ _ h => h) (Or.inl ⟨by rfl, ?_⟩) (by assumption) ?_
            rotate_left 1
            · intro wz hwz
              have hss := HSB.out; have hsn : ((strB L).toList != (strB l).toList) = true := by unfold bne; rw [hss]; rfl
              go_simp
              all_goals with_reducible rfl
            simp only [Act.put, List.setIfInBounds_toArray, List.set_cons_zero, List.set_cons_succ, List.getElem_toArray, List.getElem_cons_zero, List.getElem_cons_succ]
            refine wpAnyH_take (i := 16) (v := ?_) rfl (by kernel_rfl) (by kernel_rfl) (by kernel_rfl) (fun _ _ _ h => h) (Or.inl ⟨by rfl, ?_⟩) (by assumption) ?_
            rotate_left 1
            · intro wz hwz
              go_simp
              all_goals with_reducible rfl
            simp only [Act.put, List.setIfInBounds_toArray, List.set_cons_zero, List.set_cons_succ, List.getElem_toArray, List.getElem_cons_zero, List.getElem_cons_succ]
            refine wpAnyH_done (by kernel_rfl) ?_ _
            obtain ⟨k0, k1, k2, k3, k4, k5, k6, kf, klt⟩ := HZ2.out.below HZ2.out.lt HB4.out
            simp only [zeroE] at k0 k1 k2 k3 k4 k5 k6
            go_wp2
            exact bodyPost_ret (v := .tuple #[.agg #[.int .i64 0, .int .i64 0, .int .i64 0, .int .i64 0, .int .i64 0, .int .i64 0, .int .i64 0], .bool false]) (by simp [results, Try.results16, go_sem, k0, k1, k2, k3, k4, k5, k6]) rfl ⟨by rw [HF.out], bel7 (below_join HB2.out HB4.out) _ _ _ _ _ _ _⟩
        · have HF : Hid (decDV l = .tuple #[.agg #[.int .i64 0, .int .i64 0, .int .i64 0, .int .i64 0, .int .i64 0, .int .i64 0, .int .i64 0], .bool false]) := by
            show decDV l = _
            unfold decDV; rw [HDC.out, if_neg (fun h => hf h.2.1)]; rfl
          have hfe : (fltE ⟨p, t, k, d, na, nb, nr⟩ != 0) = true := by simp [hf]
          clear hf HDC
          generalize fltE ⟨p, t, k, d, na, nb, nr⟩ = f at *
          refine wp_region_held_drew (S := fun W => Below W2.heap.size W2 W) (by kernel_rfl) (below_drewN (Below.refl _ _) 1) (fun hHeld => ?_)
          refine wpAnyH_take (i := 0) (v := ?_) rfl (by kernel_rfl) (by kernel_rfl) (by kernel_rfl) (fun _ _ _ h => h) (Or.inl ⟨by rfl, ?_⟩) (by assumption) ?_
          rotate_left 1
          · intro wz hwz
            go_simp
            all_goals with_reducible rfl
          simp only [Act.put, List.setIfInBounds_toArray, List.set_cons_zero, List.set_cons_succ, List.getElem_toArray, List.getElem_cons_zero]
          refine wpAnyH_take (i := 1) (v := ?_) rfl (by kernel_rfl) (by kernel_rfl) (by kernel_rfl) (fun _ _ _ h => h) (Or.inl ⟨by rfl, ?_⟩) (by assumption) ?_
          rotate_left 1
          · intro wz hwz
            go_simp
            all_goals with_reducible rfl
          simp only [Act.put, List.setIfInBounds_toArray, List.set_cons_zero, List.set_cons_succ, List.getElem_toArray, List.getElem_cons_zero, List.getElem_cons_succ]
          refine wpAnyH_take (i := 2) (v := ?_) rfl (by kernel_rfl) (by kernel_rfl) (by kernel_rfl) (fun _ _ _ h => h) (Or.inl ⟨by rfl, ?_⟩) (by assumption) ?_
          rotate_left 1
          · intro wz hwz
            go_simp
            all_goals with_reducible rfl
          simp only [Act.put, List.setIfInBounds_toArray, List.set_cons_zero, List.set_cons_succ, List.getElem_toArray, List.getElem_cons_zero, List.getElem_cons_succ]
          refine wpAnyH_take (i := 3) (v := ?_) rfl (by kernel_rfl) (by kernel_rfl) (by kernel_rfl) (fun _ _ _ h => h) (Or.inl ⟨by rfl, ?_⟩) (by assumption) ?_
          rotate_left 1
          · intro wz hwz
            go_simp
            all_goals with_reducible rfl
          simp only [Act.put, List.setIfInBounds_toArray, List.set_cons_zero, List.set_cons_succ, List.getElem_toArray, List.getElem_cons_zero, List.getElem_cons_succ]
          refine wpAnyH_take (i := 4) (v := ?_) rfl (by kernel_rfl) (by kernel_rfl) (by kernel_rfl) (fun _ _ _ h => h) (Or.inl ⟨by rfl, ?_⟩) (by assumption) ?_
          rotate_left 1
          · intro wz hwz
            go_simp
            all_goals with_reducible rfl
          simp only [Act.put, List.setIfInBounds_toArray, List.set_cons_zero, List.set_cons_succ, List.getElem_toArray, List.getElem_cons_zero, List.getElem_cons_succ]
          refine wpAnyH_take (i := 5) (v := ?_) rfl (by kernel_rfl) (by kernel_rfl) (by kernel_rfl) (fun _ _ _ h => h) (Or.inl ⟨by rfl, ?_⟩) (by assumption) ?_
          rotate_left 1
          · intro wz hwz
            obtain ⟨q0, q1, q2, q3, q4, q5, q6, _⟩ := HV2.out.low hwz
            go_simp
            all_goals with_reducible rfl
          simp only [Act.put, List.setIfInBounds_toArray, List.set_cons_zero, List.set_cons_succ, List.getElem_toArray, List.getElem_cons_zero, List.getElem_cons_succ]
          refine wpAnyH_ready (rs := [6]) (by kernel_rfl) (by simp) (AllReadyH.cons rfl (fun K hK => ?_) AllReadyH.nil)
          go_simp
          refine (HCk.out _).mono ?_
          rintro x w3 ⟨rfl, hb3⟩
          have hb23 : Below W2.heap.size W2 w3 := below_join (below_drewN (Below.refl _ _) 1) hb3
          have HB3 := hideIt hb23
          clear hb3
          refine hK.out _ _ ?_ (fun hHeld => ?_)
          · exact hb23
          clear hK K
          refine wpAnyH_take (i := 7) (v := ?_) rfl (by kernel_rfl) (by kernel_rfl) (by kernel_rfl) (fun _ _ _ h => h) (Or.inl ⟨by rfl, ?_⟩) (by assumption) ?_
          rotate_left 1
          · intro wz hwz
            go_simp
            all_goals with_reducible rfl
          simp only [Act.put, List.setIfInBounds_toArray, List.set_cons_zero, List.set_cons_succ, List.getElem_toArray, List.getElem_cons_zero, List.getElem_cons_succ]
          refine wpAnyH_take (i := 8) (v := ?_) rfl (by kernel_rfl) (by kernel_rfl) (by kernel_rfl) (fun _ _ _ h => h) (Or.inl ⟨by rfl, ?_⟩) (by assumption) ?_
          rotate_left 1
          · intro wz hwz
            go_simp
            all_goals with_reducible rfl
          simp only [Act.put, List.setIfInBounds_toArray, List.set_cons_zero, List.set_cons_succ, List.getElem_toArray, List.getElem_cons_zero, List.getElem_cons_succ]
          refine wpAnyH_take (i := 9) (v := ?_) rfl (by kernel_rfl) (by kernel_rfl) (by kernel_rfl) (fun _ _ _ h => h) (Or.inl ⟨by rfl, ?_⟩) (by assumption) ?_
          rotate_left 1
          · intro wz hwz
            go_simp
            all_goals with_reducible rfl
          simp only [Act.put, List.setIfInBounds_toArray, List.set_cons_zero, List.set_cons_succ, List.getElem_toArray, List.getElem_cons_zero, List.getElem_cons_succ]
          refine wpAnyH_take (i := 10) (v := undef) rfl (by kernel_rfl) (by kernel_rfl) (by kernel_rfl) (fun _ _ _ h => h) (Or.inr ⟨by rfl, rfl⟩) (by assumption) ?_
          simp only [Act.put, List.setIfInBounds_toArray, List.set_cons_zero, List.set_cons_succ, List.getElem_toArray, List.getElem_cons_zero, List.getElem_cons_succ]
          refine wpAnyH_take (i := 11) (v := undef) rfl (by kernel_rfl) (by kernel_rfl) (by kernel_rfl) (fun _ _ _ h => h) (Or.inr ⟨by rfl, rfl⟩) (by assumption) ?_
          simp only [Act.put, List.setIfInBounds_toArray, List.set_cons_zero, List.set_cons_succ, List.getElem_toArray, List.getElem_cons_zero, List.getElem_cons_succ]
          refine wpAnyH_take (i := 12) (v := undef) rfl (by kernel_rfl) (by kernel_rfl) (by kernel_rfl) (fun _ _ _ h => h) (Or.inr ⟨by rfl, rfl⟩) (by assumption) ?_
          simp only [Act.put, List.setIfInBounds_toArray, List.set_cons_zero, List.set_cons_succ, List.getElem_toArray, List.getElem_cons_zero, List.getElem_cons_succ]
          refine wpAnyH_take (i := 13) (v := undef) rfl (by kernel_rfl) (by kernel_rfl) (by kernel_rfl) (fun _ _ _ h => h) (Or.inr ⟨by rfl, rfl⟩) (by assumption) ?_
          simp only [Act.put, List.setIfInBounds_toArray, List.set_cons_zero, List.set_cons_succ, List.getElem_toArray, List.getElem_cons_zero, List.getElem_cons_succ]
          refine wpAnyH_take (i := 14) (v := undef) rfl (by kernel_rfl) (by kernel_rfl) (by kernel_rfl) (fun _ _ _ h => h) (Or.inr ⟨by rfl, rfl⟩) (by assumption) ?_
          simp only [Act.put, List.setIfInBounds_toArray, List.set_cons_zero, List.set_cons_succ, List.getElem_toArray, List.getElem_cons_zero, List.getElem_cons_succ]
          refine wpAnyH_take (i := 15) (v := undef) rfl (by kernel_rfl) (by kernel_rfl) (by kernel_rfl) (fun _ _ _ h => h) (Or.inr ⟨by rfl, rfl⟩) (by assumption) ?_
          simp only [Act.put, List.setIfInBounds_toArray, List.set_cons_zero, List.set_cons_succ, List.getElem_toArray, List.getElem_cons_zero, List.getElem_cons_succ]
          refine wpAnyH_take (i := 16) (v := ?_) rfl (by kernel_rfl) (by kernel_rfl) (by kernel_rfl) (fun _ _ _ h => h) (Or.inl ⟨by rfl, ?_⟩) (by assumption) ?_
          rotate_left 1
          · intro wz hwz
            go_simp
            all_goals with_reducible rfl
          simp only [Act.put, List.setIfInBounds_toArray, List.set_cons_zero, List.set_cons_succ, List.getElem_toArray, List.getElem_cons_zero, List.getElem_cons_succ]
          refine wpAnyH_done (by kernel_rfl) ?_ _
          obtain ⟨k0, k1, k2, k3, k4, k5, k6, kf, klt⟩ := HZ2.out.below HZ2.out.lt HB3.out
          simp only [zeroE] at k0 k1 k2 k3 k4 k5 k6
          go_wp2
          exact bodyPost_ret (v := .tuple #[.agg #[.int .i64 0, .int .i64 0, .int .i64 0, .int .i64 0, .int .i64 0, .int .i64 0, .int .i64 0], .bool false]) (by simp [results, Try.results16, go_sem, k0, k1, k2, k3, k4, k5, k6]) rfl ⟨by rw [HF.out], bel7 (below_join HB2.out HB3.out) _ _ _ _ _ _ _⟩
      · have hne : ((at0 : Int) != (l.length : Int)) = true := by simp; omega
        have HF : Hid (decDV l = .tuple #[.agg #[.int .i64 0, .int .i64 0, .int .i64 0, .int .i64 0, .int .i64 0, .int .i64 0, .int .i64 0], .bool false]) := by
          show decDV l = _
          unfold decDV; rw [HDC.out, if_neg (fun h => by have := congrArg List.length h.1; simp at this; omega)]; rfl
        clear HDC
        refine wp_region_held_drew (S := fun W => Below W2.heap.size W2 W) (by kernel_rfl) (below_drewN (Below.refl _ _) 1) (fun hHeld => ?_)
        refine wpAnyH_take (i := 0) (v := ?_) rfl (by kernel_rfl) (by kernel_rfl) (by kernel_rfl) (fun _ _ _ h => h) (Or.inl ⟨by rfl, ?_⟩) (by assumption) ?_
        rotate_left 1
        · intro wz hwz
          go_simp
          all_goals with_reducible rfl
        simp only [Act.put, List.setIfInBounds_toArray, List.set_cons_zero, List.set_cons_succ, List.getElem_toArray, List.getElem_cons_zero]
        refine wpAnyH_take (i := 1) (v := ?_) rfl (by kernel_rfl) (by kernel_rfl) (by kernel_rfl) (fun _ _ _ h => h) (Or.inl ⟨by rfl, ?_⟩) (by assumption) ?_
        rotate_left 1
        · intro wz hwz
          go_simp
          all_goals with_reducible rfl
        simp only [Act.put, List.setIfInBounds_toArray, List.set_cons_zero, List.set_cons_succ, List.getElem_toArray, List.getElem_cons_zero, List.getElem_cons_succ]
        refine wpAnyH_take (i := 2) (v := ?_) rfl (by kernel_rfl) (by kernel_rfl) (by kernel_rfl) (fun _ _ _ h => h) (Or.inl ⟨by rfl, ?_⟩) (by assumption) ?_
        rotate_left 1
        · intro wz hwz
          go_simp
          all_goals with_reducible rfl
        simp only [Act.put, List.setIfInBounds_toArray, List.set_cons_zero, List.set_cons_succ, List.getElem_toArray, List.getElem_cons_zero, List.getElem_cons_succ]
        refine wpAnyH_take (i := 3) (v := ?_) rfl (by kernel_rfl) (by kernel_rfl) (by kernel_rfl) (fun _ _ _ h => h) (Or.inl ⟨by rfl, ?_⟩) (by assumption) ?_
        rotate_left 1
        · intro wz hwz
          go_simp
          all_goals with_reducible rfl
        simp only [Act.put, List.setIfInBounds_toArray, List.set_cons_zero, List.set_cons_succ, List.getElem_toArray, List.getElem_cons_zero, List.getElem_cons_succ]
        refine wpAnyH_take (i := 4) (v := ?_) rfl (by kernel_rfl) (by kernel_rfl) (by kernel_rfl) (fun _ _ _ h => h) (Or.inl ⟨by rfl, ?_⟩) (by assumption) ?_
        rotate_left 1
        · intro wz hwz
          go_simp
          all_goals with_reducible rfl
        simp only [Act.put, List.setIfInBounds_toArray, List.set_cons_zero, List.set_cons_succ, List.getElem_toArray, List.getElem_cons_zero, List.getElem_cons_succ]
        refine wpAnyH_take (i := 5) (v := undef) rfl (by kernel_rfl) (by kernel_rfl) (by kernel_rfl) (fun _ _ _ h => h) (Or.inr ⟨by rfl, rfl⟩) (by assumption) ?_
        simp only [Act.put, List.setIfInBounds_toArray, List.set_cons_zero, List.set_cons_succ, List.getElem_toArray, List.getElem_cons_zero, List.getElem_cons_succ]
        refine wpAnyH_take (i := 6) (v := undef) rfl (by kernel_rfl) (by kernel_rfl) (by kernel_rfl) (fun _ _ _ h => h) (Or.inr ⟨by rfl, rfl⟩) (by assumption) ?_
        simp only [Act.put, List.setIfInBounds_toArray, List.set_cons_zero, List.set_cons_succ, List.getElem_toArray, List.getElem_cons_zero, List.getElem_cons_succ]
        refine wpAnyH_take (i := 7) (v := undef) rfl (by kernel_rfl) (by kernel_rfl) (by kernel_rfl) (fun _ _ _ h => h) (Or.inr ⟨by rfl, rfl⟩) (by assumption) ?_
        simp only [Act.put, List.setIfInBounds_toArray, List.set_cons_zero, List.set_cons_succ, List.getElem_toArray, List.getElem_cons_zero, List.getElem_cons_succ]
        refine wpAnyH_take (i := 8) (v := ?_) rfl (by kernel_rfl) (by kernel_rfl) (by kernel_rfl) (fun _ _ _ h => h) (Or.inl ⟨by rfl, ?_⟩) (by assumption) ?_
        rotate_left 1
        · intro wz hwz
          go_simp
          all_goals with_reducible rfl
        simp only [Act.put, List.setIfInBounds_toArray, List.set_cons_zero, List.set_cons_succ, List.getElem_toArray, List.getElem_cons_zero, List.getElem_cons_succ]
        refine wpAnyH_take (i := 9) (v := ?_) rfl (by kernel_rfl) (by kernel_rfl) (by kernel_rfl) (fun _ _ _ h => h) (Or.inl ⟨by rfl, ?_⟩) (by assumption) ?_
        rotate_left 1
        · intro wz hwz
          go_simp
          all_goals with_reducible rfl
        simp only [Act.put, List.setIfInBounds_toArray, List.set_cons_zero, List.set_cons_succ, List.getElem_toArray, List.getElem_cons_zero, List.getElem_cons_succ]
        refine wpAnyH_take (i := 10) (v := undef) rfl (by kernel_rfl) (by kernel_rfl) (by kernel_rfl) (fun _ _ _ h => h) (Or.inr ⟨by rfl, rfl⟩) (by assumption) ?_
        simp only [Act.put, List.setIfInBounds_toArray, List.set_cons_zero, List.set_cons_succ, List.getElem_toArray, List.getElem_cons_zero, List.getElem_cons_succ]
        refine wpAnyH_take (i := 11) (v := undef) rfl (by kernel_rfl) (by kernel_rfl) (by kernel_rfl) (fun _ _ _ h => h) (Or.inr ⟨by rfl, rfl⟩) (by assumption) ?_
        simp only [Act.put, List.setIfInBounds_toArray, List.set_cons_zero, List.set_cons_succ, List.getElem_toArray, List.getElem_cons_zero, List.getElem_cons_succ]
        refine wpAnyH_take (i := 12) (v := undef) rfl (by kernel_rfl) (by kernel_rfl) (by kernel_rfl) (fun _ _ _ h => h) (Or.inr ⟨by rfl, rfl⟩) (by assumption) ?_
        simp only [Act.put, List.setIfInBounds_toArray, List.set_cons_zero, List.set_cons_succ, List.getElem_toArray, List.getElem_cons_zero, List.getElem_cons_succ]
        refine wpAnyH_take (i := 13) (v := undef) rfl (by kernel_rfl) (by kernel_rfl) (by kernel_rfl) (fun _ _ _ h => h) (Or.inr ⟨by rfl, rfl⟩) (by assumption) ?_
        simp only [Act.put, List.setIfInBounds_toArray, List.set_cons_zero, List.set_cons_succ, List.getElem_toArray, List.getElem_cons_zero, List.getElem_cons_succ]
        refine wpAnyH_take (i := 14) (v := undef) rfl (by kernel_rfl) (by kernel_rfl) (by kernel_rfl) (fun _ _ _ h => h) (Or.inr ⟨by rfl, rfl⟩) (by assumption) ?_
        simp only [Act.put, List.setIfInBounds_toArray, List.set_cons_zero, List.set_cons_succ, List.getElem_toArray, List.getElem_cons_zero, List.getElem_cons_succ]
        refine wpAnyH_take (i := 15) (v := undef) rfl (by kernel_rfl) (by kernel_rfl) (by kernel_rfl) (fun _ _ _ h => h) (Or.inr ⟨by rfl, rfl⟩) (by assumption) ?_
        simp only [Act.put, List.setIfInBounds_toArray, List.set_cons_zero, List.set_cons_succ, List.getElem_toArray, List.getElem_cons_zero, List.getElem_cons_succ]
        refine wpAnyH_take (i := 16) (v := ?_) rfl (by kernel_rfl) (by kernel_rfl) (by kernel_rfl) (fun _ _ _ h => h) (Or.inl ⟨by rfl, ?_⟩) (by assumption) ?_
        rotate_left 1
        · intro wz hwz
          go_simp
          all_goals with_reducible rfl
        simp only [Act.put, List.setIfInBounds_toArray, List.set_cons_zero, List.set_cons_succ, List.getElem_toArray, List.getElem_cons_zero, List.getElem_cons_succ]
        refine wpAnyH_done (by kernel_rfl) ?_ _
        obtain ⟨k0, k1, k2, k3, k4, k5, k6, kf, klt⟩ := HZ2.out
        simp only [zeroE] at k0 k1 k2 k3 k4 k5 k6
        go_wp2
        exact bodyPost_ret (v := .tuple #[.agg #[.int .i64 0, .int .i64 0, .int .i64 0, .int .i64 0, .int .i64 0, .int .i64 0, .int .i64 0], .bool false]) (by simp [results, Try.results16, go_sem, k0, k1, k2, k3, k4, k5, k6]) rfl ⟨by rw [HF.out], below_drewN (bel7 HB2.out _ _ _ _ _ _ _) 1⟩

theorem refDecode_any (v : Value) (l : List Nat) (w : World) (hq : ByQ w v l) (hl : l.length ≤ 70000) :
    Calls Try.prog 16 #[v] w fun e w' => e = .returned (decDV l) ∧ Below w.heap.size w w' := by
  by_cases h4 : l.length < 4
  · exact refDecode_short v l w hq h4
  · obtain ⟨hB, ⟨rfl, _⟩ | ⟨b, o, c, rfl, hc, hb, hA⟩⟩ := hq
    · simp at h4
    · exact refDecode_long b o c l w hB hc hb hA hl (by omega)

end Go.Proofs.Ytdncnljcihblbaa
