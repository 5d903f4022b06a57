/-
  The document's own popped and badPair, walked.
  The document's own badPair of crossed pushes, walked.
  The document's own QueueFinds, walked.
-/
import Derived.Test.YtelndpbkheoeaaaDoorQcR
import Derived.Test.YtelndpbkheoeaaaDoorQpWZ
import Derived.BigQuiet
import Derived.Deep.RegionHeld3
namespace Go.Proofs.YtelndpbkheoeaaaDoor
open Go.RowKit

/-- Who pops a value last. -/
def LastPop (l : List Opn) (v : Int) (k : Nat) (n : Int) : Prop :=
  (n = -1 ∧ ∀ m, m < k → ¬ PopOf l v m) ∨ ∃ i : Nat, i < k ∧ n = i ∧ PopOf l v i ∧ ∀ m, m < k → i < m → ¬ PopOf l v m
theorem lastPop_zero (l : List Opn) (v : Int) : LastPop l v 0 (-1) := .inl ⟨rfl, fun m hm => absurd hm (by omega)⟩
theorem LastPop.yes {l : List Opn} {v : Int} {k : Nat} (hp : PopOf l v k) : LastPop l v (k + 1) k := .inr ⟨k, by omega, rfl, hp, fun m hm h => by omega⟩
theorem LastPop.no {l : List Opn} {v : Int} {k : Nat} {n : Int} (h : LastPop l v k n) (hp : ¬ PopOf l v k) : LastPop l v (k + 1) n := by
  rcases h with ⟨e, h⟩ | ⟨i, hi, e, hpi, h⟩
  · refine .inl ⟨e, fun m hm hm2 => ?_⟩
    by_cases e : m = k
    · subst e; exact hp hm2
    · exact h m (by omega) hm2
  · refine .inr ⟨i, by omega, e, hpi, fun m hm him hm2 => ?_⟩
    by_cases e : m = k
    · subst e; exact hp hm2
    · exact h m (by omega) him hm2

set_option maxHeartbeats 1000000 in
theorem popped_any (l : List Opn) (v : Int) (b off cap : Nat) (w : World) (hlen : l.length ≤ 60) (hl : OpsAt w b off l) (hb : b < w.heap.size) :
    Calls Tryd.prog 43 #[.slice (some ⟨b, off, none⟩) l.length cap, .int .i64 v] w fun e w' => ∃ n, e = .returned (.int .i64 n) ∧ LastPop l v l.length n ∧ Below w.heap.size w w' := by
  have HL := hideIt hl
  clear hl
  go_enter Tryd.func43, Tryd.ntmps43
  go_wp2
  go_loopw [10, 5] (fun i t wr => ∃ (k : Nat) (n : Int), k ≤ l.length ∧ i = .int .i64 k ∧ t = .int .i64 n ∧ LastPop l v k n ∧ Below w.heap.size w wr) (fun i _ _ => l.length - (intOf i).toNat)
  case atStart => exact ⟨0, -1, Nat.zero_le _, rfl, rfl, lastPop_zero l v, Below.refl _ _⟩
  case round =>
    obtain ⟨k, n, hk, rfl, rfl, hlp, hnx⟩ := hrel
    have HLP := hideIt hlp
    have HNX := hideIt hnx
    clear hlp
    by_cases hkl : k < l.length
    · obtain ⟨c0, c1, c2, c3, c4, c5, c6, c7⟩ := (HL.out k hkl).below hb hnx
      have HX : Hid (opZ l k = l[k]) := opZ_at hkl
      generalize l[k] = x at c0 c1 c2 c3 c4 c5 c6 c7 HX
      cases hd : x.d == 10
      · have R1 := hideIt (HLP.out.no (fun h => by have := h.1; rw [HX.out] at this; rw [this] at hd; cases hd))
        go_wp2
        go_roundw
        case rel => exact ⟨k + 1, n, by omega, by go_num, rfl, R1.out, belA HNX.out _⟩
        case measure => simp [intOf]; omega
      · cases hr : x.r == v
        · have R1 := hideIt (HLP.out.no (fun h => by have := h.2; rw [HX.out] at this; rw [this] at hr; simp at hr))
          go_wp2
          go_roundw
          case rel => exact ⟨k + 1, n, by omega, by go_num, rfl, R1.out, belA HNX.out _⟩
          case measure => simp [intOf]; omega
        · have R1 : Hid (LastPop l v (k + 1) k) := LastPop.yes ⟨by rw [HX.out]; simpa using hd, by rw [HX.out]; simpa using hr⟩
          go_wp2
          go_roundw
          case rel => exact ⟨k + 1, k, by omega, by go_num, rfl, R1.out, belA HNX.out _⟩
          case measure => simp [intOf]; omega
    · obtain rfl : k = l.length := by omega
      go_wp2
      go_ret
      exact ⟨n, rfl, HLP.out, HNX.out⟩

/-- What badPair tells. -/
def BadT (l : List Opn) (c : Int) (i k : Nat) (w : World) (e : Ending) (w' : World) : Prop := ∃ bb : Bool, e = .returned (.bool bb) ∧ (bb = true ↔ badP l c i k) ∧ Below w.heap.size w w'
theorem bad_no {l : List Opn} {c : Int} {i k : Nat} {w w' : World} (h : ¬ badP l c i k) (hb : Below w.heap.size w w') : BadT l c i k w (.returned (.bool false)) w' := ⟨false, rfl, ⟨fun e => (by cases e), fun e => absurd e h⟩, hb⟩
theorem bad_yes {l : List Opn} {c : Int} {i k : Nat} {w w' : World} (h : badP l c i k) (hb : Below w.heap.size w w') : BadT l c i k w (.returned (.bool true)) w' := ⟨true, rfl, ⟨fun _ => h, fun _ => rfl⟩, hb⟩

section
variable (l : List Opn) (i k b off cap : Nat) (x y : Opn) (w : World) (hlen : l.length ≤ 60) (hl : OpsAt w b off l) (hb : b < w.heap.size) (hx : opZ l i = x) (hy : opZ l k = y)
  (hdx : x.d = 9 ∨ x.d = 10) (hdy : y.d = 9 ∨ y.d = 10)
include hlen hl hb hx hy hdx hdy

omit hy in
set_option maxHeartbeats 1000000 in
theorem bad1_any : Calls Tryd.prog 29 #[.slice (some ⟨b, off, none⟩) l.length cap, .int .i64 1, .int .i64 i, .int .i64 k, x.agg, y.agg] w fun e w' => BadT l 1 i k w e w' := by
  have HL := hideIt hl
  have HXX := hideIt hx
  clear hl hx
  unfold Opn.agg
  by_cases hik : i = k
  · subst hik
    rcases hdx with hdx | hdx
    · have a1 : (x.d == 10) = false := by simp [hdx]
      have a2 : (x.d == 9) = true := by simp [hdx]
      have a3 : (x.d != 10) = true := by simp [hdx]
      have R : Hid (¬ badP l 1 i i) := fun h => by
        unfold badP at h; rw [if_pos rfl, HXX.out] at h; have := h.2.1; omega
      have d1 : ∃ q, (y.d == 9) = q := ⟨_, rfl⟩
      obtain ⟨q, hq⟩ := d1
      clear hdx hdy
      go_enter Tryd.func29, Tryd.ntmps29
      go_wp2
      go_ret
      exact bad_no R.out (belA (belA (Below.refl _ _) _) _)
    · have a1 : (x.d == 10) = true := by simp [hdx]
      have a2 : (x.d == 9) = false := by simp [hdx]
      have a3 : (x.d != 10) = false := by simp [hdx]
      have HP : Hid (badP l 1 i i ↔ ∀ j, j < l.length → ¬ PushOf l x.r j) := by
        show badP l 1 i i ↔ _
        unfold badP; rw [if_pos rfl, HXX.out]
        exact ⟨fun h => h.2.2, fun h => ⟨rfl, hdx, h⟩⟩
      clear hdx
      obtain ⟨q, hq⟩ : ∃ q, (y.d == 10) = q := ⟨_, rfl⟩
      clear hdy
      cases q
      all_goals
        go_enter Tryd.func29, Tryd.ntmps29
        go_wp2
        go_loopw [47] (fun j wr => ∃ m : Nat, m ≤ l.length ∧ j = .int .i64 m ∧ (∀ t, t < m → ¬ PushOf l x.r t) ∧ OpAt wr w.heap.size 0 x ∧ Below w.heap.size w wr) (fun j _ => l.length - (intOf j).toNat)
        case atStart => exact ⟨0, Nat.zero_le _, rfl, fun t ht => absurd ht (by omega), ⟨by simp, by simp, by simp, by simp, by simp, by simp, by simp, by simp⟩, belA (belA (Below.refl _ _) _) _⟩
        case round =>
          obtain ⟨m, hm, rfl, hpu, hxa, hnx⟩ := hrel
          have HPU := hideIt hpu
          have HNX := hideIt hnx
          have HXA := hideIt hxa
          have hxl := hxa.lt
          obtain ⟨x0, x1, x2, x3, x4, x5, x6, x7⟩ := hxa
          rw [Nat.zero_add] at x1 x2 x3 x4 x5 x6 x7
          clear hpu
          by_cases hml : m < l.length
          · obtain ⟨c0, c1, c2, c3, c4, c5, c6, c7⟩ := (HL.out m hml).below hb hnx
            have HZ : Hid (opZ l m = l[m]) := opZ_at hml
            generalize l[m] = z at c0 c1 c2 c3 c4 c5 c6 c7 HZ
            cases hd : z.d == 9
            · have R1 : Hid (∀ t, t < m + 1 → ¬ PushOf l x.r t) := fun t ht h => by
                by_cases e : t = m
                · subst e; have := h.1; rw [HZ.out] at this; rw [this] at hd; cases hd
                · exact HPU.out t (by omega) h
              have R2 := hideIt (HXA.out.below hxl (belA (Below.refl _ _) (.cells #[.int .i64 z.p, .int .i64 z.k, .int .i64 z.d, .int .i64 z.a, .int .i64 z.b, .int .i64 z.r, .int .i64 z.c, .int .i64 z.e] 54)))
              go_wp2
              go_roundw
              case rel => exact ⟨m + 1, by omega, by go_num, R1.out, R2.out, belA HNX.out _⟩
              case measure => simp [intOf]; omega
            · cases hr : z.a == x.r
              · have R1 : Hid (∀ t, t < m + 1 → ¬ PushOf l x.r t) := fun t ht h => by
                  by_cases e : t = m
                  · subst e; have := h.2; rw [HZ.out] at this; rw [this] at hr; simp at hr
                  · exact HPU.out t (by omega) h
                have R2 := hideIt (HXA.out.below hxl (belA (Below.refl _ _) (.cells #[.int .i64 z.p, .int .i64 z.k, .int .i64 z.d, .int .i64 z.a, .int .i64 z.b, .int .i64 z.r, .int .i64 z.c, .int .i64 z.e] 54)))
                go_wp2
                go_roundw
                case rel => exact ⟨m + 1, by omega, by go_num, R1.out, R2.out, belA HNX.out _⟩
                case measure => simp [intOf]; omega
              · have R : Hid (¬ badP l 1 i i) := fun h => HP.out.1 h m hml ⟨by rw [HZ.out]; simpa using hd, by rw [HZ.out]; simpa using hr⟩
                go_wp2
                go_ret
                exact bad_no R.out (belA HNX.out _)
          · have R : Hid (badP l 1 i i) := HP.out.2 fun t ht => HPU.out t (by omega)
            go_wp2
            go_ret
            exact bad_yes R.out HNX.out
  · have hikI : ((i : Int) != (k : Int)) = true := by simp; omega
    have R : Hid (¬ badP l 1 i k) := fun h => by unfold badP at h; rw [if_pos rfl] at h; exact hik h.1
    clear hik
    rcases hdx with hdx | hdx
    all_goals
      rcases hdy with hdy | hdy
      all_goals
        go_enter Tryd.func29, Tryd.ntmps29
        go_wp2
        go_ret
        exact bad_no R.out (belA (belA (Below.refl _ _) _) _)

omit hlen hl hb in
set_option maxHeartbeats 1000000 in
theorem bad2_any : Calls Tryd.prog 29 #[.slice (some ⟨b, off, none⟩) l.length cap, .int .i64 2, .int .i64 i, .int .i64 k, x.agg, y.agg] w fun e w' => BadT l 2 i k w e w' := by
  have HP : Hid (badP l 2 i k ↔ (i < k ∧ x.d = 10 ∧ y.d = 10 ∧ x.r = y.r)) := by
    show badP l 2 i k ↔ _
    unfold badP
    rw [if_neg (by decide), if_pos rfl, hx, hy]
  clear hx hy
  unfold Opn.agg
  rcases hdx with hdx | hdx
  · have a1 : (x.d == 10) = false := by simp [hdx]
    have a2 : (x.d == 9) = true := by simp [hdx]
    have R : Hid (¬ badP l 2 i k) := fun h => by have := (HP.out.1 h).2.1; omega
    clear hdx
    rcases hdy with hdy | hdy
    all_goals
      by_cases hik : (i : Int) < (k : Int)
      all_goals
        go_enter Tryd.func29, Tryd.ntmps29
        go_wp2
        go_ret
        exact bad_no R.out (belA (belA (Below.refl _ _) _) _)
  · have a1 : (x.d == 10) = true := by simp [hdx]
    have a2 : (x.d == 9) = false := by simp [hdx]
    rcases hdy with hdy | hdy
    · have b1 : (y.d == 10) = false := by simp [hdy]
      have R : Hid (¬ badP l 2 i k) := fun h => by have := (HP.out.1 h).2.2.1; omega
      clear hdx hdy
      by_cases hik : (i : Int) < (k : Int)
      all_goals
        go_enter Tryd.func29, Tryd.ntmps29
        go_wp2
        go_ret
        exact bad_no R.out (belA (belA (Below.refl _ _) _) _)
    · have b1 : (y.d == 10) = true := by simp [hdy]
      have HD := hideIt (And.intro hdx hdy)
      clear hdx hdy
      by_cases hik : (i : Int) < (k : Int)
      · cases hr : x.r == y.r
        · have R : Hid (¬ badP l 2 i k) := fun h => by have := (HP.out.1 h).2.2.2; simp at hr; exact hr this
          go_enter Tryd.func29, Tryd.ntmps29
          go_wp2
          go_ret
          exact bad_no R.out (belA (belA (Below.refl _ _) _) _)
        · have R : Hid (badP l 2 i k) := HP.out.2 ⟨by omega, HD.out.1, HD.out.2, by simpa using hr⟩
          go_enter Tryd.func29, Tryd.ntmps29
          go_wp2
          go_ret
          exact bad_yes R.out (belA (belA (Below.refl _ _) _) _)
      · have R : Hid (¬ badP l 2 i k) := fun h => by have := (HP.out.1 h).1; omega
        go_enter Tryd.func29, Tryd.ntmps29
        go_wp2
        go_ret
        exact bad_no R.out (belA (belA (Below.refl _ _) _) _)

omit hlen hl hb in
set_option maxHeartbeats 1000000 in
theorem bad3_any : Calls Tryd.prog 29 #[.slice (some ⟨b, off, none⟩) l.length cap, .int .i64 3, .int .i64 i, .int .i64 k, x.agg, y.agg] w fun e w' => BadT l 3 i k w e w' := by
  have HP : Hid (badP l 3 i k ↔ (x.d = 9 ∧ y.d = 10 ∧ y.r = x.a ∧ beforeB y x = true)) := by
    show badP l 3 i k ↔ _
    unfold badP
    rw [if_neg (by decide), if_neg (by decide), if_pos rfl, hx, hy]
  have HB : Hid (∀ W, Calls Tryd.prog 42 #[y.agg, x.agg] W fun e w' => e = .returned (.bool (beforeB y x)) ∧ Below W.heap.size W w') := fun W => refBefore_any y x W
  clear hx hy
  unfold Opn.agg at HB ⊢
  rcases hdx with hdx | hdx
  · have a1 : (x.d == 10) = false := by simp [hdx]
    have a2 : (x.d == 9) = true := by simp [hdx]
    rcases hdy with hdy | hdy
    · have b1 : (y.d == 10) = false := by simp [hdy]
      have b2 : (y.d == 9) = true := by simp [hdy]
      have R : Hid (¬ badP l 3 i k) := fun h => by have := (HP.out.1 h).2.1; omega
      clear hdx hdy
      go_enter Tryd.func29, Tryd.ntmps29
      go_wp2
      go_ret
      exact bad_no R.out (belA (belA (Below.refl _ _) _) _)
    · have b1 : (y.d == 10) = true := by simp [hdy]
      have b2 : (y.d == 9) = false := by simp [hdy]
      have HD := hideIt (And.intro hdx hdy)
      clear hdx hdy
      cases hr : y.r == x.a
      · have R : Hid (¬ badP l 3 i k) := fun h => by have := (HP.out.1 h).2.2.1; simp at hr; exact hr this
        go_enter Tryd.func29, Tryd.ntmps29
        go_wp2
        go_ret
        exact bad_no R.out (belA (belA (Below.refl _ _) _) _)
      · obtain ⟨q, HQ⟩ : ∃ q, Hid (beforeB y x = q) := ⟨_, hideIt rfl⟩
        rw [HQ.out] at HB
        have R : Hid (q = true ↔ badP l 3 i k) := by
          show q = true ↔ badP l 3 i k
          rw [HP.out, HQ.out]
          exact ⟨fun h => ⟨HD.out.1, HD.out.2, by simpa using hr, h⟩, fun h => h.2.2.2⟩
        go_enter Tryd.func29, Tryd.ntmps29
        go_wp2_with fail
        refine (HB.out _).mono ?_
        rintro e w1 ⟨rfl, hb1⟩
        have R2 := hideIt (show Below w.heap.size w w1 from belJ (belA (belA (Below.refl _ _) _) _) hb1)
        clear hb1
        go_wp2
        go_ret
        exact ⟨q, rfl, R.out, R2.out⟩
  · have a1 : (x.d == 10) = true := by simp [hdx]
    have a2 : (x.d == 9) = false := by simp [hdx]
    have R : Hid (¬ badP l 3 i k) := fun h => by have := (HP.out.1 h).1; omega
    clear hdx
    rcases hdy with hdy | hdy
    all_goals
      go_enter Tryd.func29, Tryd.ntmps29
      go_wp2
      go_ret
      exact bad_no R.out (belA (belA (Below.refl _ _) _) _)

end

end Go.Proofs.YtelndpbkheoeaaaDoor

namespace Go.Proofs.YtelndpbkheoeaaaDoor
open Go.RowKit

theorem LastPop.one {l : List Opn} {v n m : Int} {k : Nat} (h1 : LastPop l v k n) (h2 : LastPop l v k m) : n = m := by
  rcases h1 with ⟨rfl, h1⟩ | ⟨i, hi, rfl, hp, h1⟩
  · rcases h2 with ⟨rfl, _⟩ | ⟨j, hj, rfl, hp, _⟩
    · rfl
    · exact absurd hp (h1 j hj)
  · rcases h2 with ⟨rfl, h2⟩ | ⟨j, hj, rfl, hq, h2⟩
    · exact absurd hp (h2 i hi)
    · rcases Nat.lt_trichotomy i j with h | h | h
      · exact absurd hq (h1 j hj h)
      · rw [h]
      · exact absurd hp (h2 i hi h)

theorem bad4_iff {l : List Opn} {i k : Nat} {x y : Opn} {nq nx : Int} (hx : opZ l i = x) (hy : opZ l k = y) (h1 : LastPop l y.a l.length nq) (h2 : LastPop l x.a l.length nx) :
    badP l 4 i k ↔ (x.d = 9 ∧ y.d = 9 ∧ beforeB x y = true ∧ 0 ≤ nq ∧ (nx < 0 ∨ beforeB (opZ l nq.toNat) (opZ l nx.toNat) = true)) := by
  unfold badP
  rw [if_neg (by decide), if_neg (by decide), if_neg (by decide), hx, hy]
  constructor
  · rintro ⟨a, b, c, q, hq, pq, lq, hx'⟩
    have e1 : nq = q := h1.one (.inr ⟨q, hq, rfl, pq, fun m hm h => lq m hm h⟩)
    subst e1
    refine ⟨a, b, c, by omega, ?_⟩
    rcases hx' with hx' | ⟨t, ht, pt, lt, hb⟩
    · have e2 : nx = -1 := h2.one (.inl ⟨rfl, fun m hm => hx' m hm⟩)
      exact .inl (by omega)
    · have e2 : nx = t := h2.one (.inr ⟨t, ht, rfl, pt, fun m hm h => lt m hm h⟩)
      subst e2
      exact .inr (by simpa using hb)
  · rintro ⟨a, b, c, h0, h3⟩
    refine ⟨a, b, c, ?_⟩
    rcases h1 with ⟨rfl, _⟩ | ⟨q, hq, rfl, pq, lq⟩
    · omega
    · refine ⟨q, hq, pq, fun m hm h => lq m hm h, ?_⟩
      rcases h2 with ⟨rfl, hn⟩ | ⟨t, ht, rfl, pt, lt⟩
      · exact .inl hn
      · rcases h3 with h3 | h3
        · omega
        · exact .inr ⟨t, ht, pt, fun m hm h => lt m hm h, by simpa using h3⟩

section
variable (l : List Opn) (i k b off cap : Nat) (x y : Opn) (w : World) (hlen : l.length ≤ 60) (hl : OpsAt w b off l) (hb : b < w.heap.size) (hx : opZ l i = x) (hy : opZ l k = y)
  (hdx : x.d = 9 ∨ x.d = 10) (hdy : y.d = 9 ∨ y.d = 10)
include hlen hl hb hx hy hdx hdy

set_option maxHeartbeats 2000000 in
theorem bad4_any : Calls Tryd.prog 29 #[.slice (some ⟨b, off, none⟩) l.length cap, .int .i64 4, .int .i64 i, .int .i64 k, x.agg, y.agg] w fun e w' => BadT l 4 i k w e w' := by
  have HL := hideIt hl
  have HX := hideIt hx
  have HY := hideIt hy
  have hno : ∀ (_ : x.d ≠ 9 ∨ y.d ≠ 9), ¬ badP l 4 i k := fun h hb => by
    unfold badP at hb
    rw [if_neg (by decide), if_neg (by decide), if_neg (by decide), HX.out, HY.out] at hb
    have h1 := hb.1
    have h2 := hb.2.1
    omega
  have HB : Hid (∀ (u v : Opn) (W : World), Calls Tryd.prog 42 #[u.agg, v.agg] W fun e w' => e = .returned (.bool (beforeB u v)) ∧ Below W.heap.size W w') := fun u v W => refBefore_any u v W
  have HPO : Hid (∀ (v : Int) (W : World), Below w.heap.size w W → Calls Tryd.prog 43 #[.slice (some ⟨b, off, none⟩) l.length cap, .int .i64 v] W fun e w' => ∃ n, e = .returned (.int .i64 n) ∧ LastPop l v l.length n ∧ Below W.heap.size W w') := fun v W hW => popped_any l v b off cap W hlen (HL.out.below hb hW) (Nat.lt_of_lt_of_le hb hW.size)
  clear hl hx hy
  unfold Opn.agg at HB ⊢
  rcases hdx with hdx | hdx
  · have a1 : (x.d == 10) = false := by simp [hdx]
    have a2 : (x.d == 9) = true := by simp [hdx]
    rcases hdy with hdy | hdy
    · have b1 : (y.d == 10) = false := by simp [hdy]
      have b2 : (y.d == 9) = true := by simp [hdy]
      have HD := hideIt (And.intro hdx hdy)
      clear hdx hdy hno
      obtain ⟨bb, HBB⟩ : ∃ bb, Hid (beforeB x y = bb) := ⟨_, hideIt rfl⟩
      have HB1 := hideIt (HB.out x y)
      rw [HBB.out] at HB1
      go_enter Tryd.func29, Tryd.ntmps29
      go_wp2_with fail
      refine (HB1.out _).mono ?_
      rintro e w1 ⟨rfl, hb1⟩
      have HW1 := hideIt (show Below w.heap.size w w1 from belJ (belA (belA (Below.refl _ _) _) _) hb1)
      have y1 : w1.cell? ⟨w.heap.size + 1, 3, none⟩ = some (.int .i64 y.a) := (hb1.cell (p := ⟨w.heap.size + 1, 3, none⟩) (by simp)).trans (by simp)
      have x1 : w1.cell? ⟨w.heap.size, 3, none⟩ = some (.int .i64 x.a) := (hb1.cell (p := ⟨w.heap.size, 3, none⟩) (by simp; omega)).trans (by simp)
      have hs1 : w.heap.size + 1 < w1.heap.size := by have := hb1.size; simp at this; omega
      clear hb1 HB1
      cases bb
      · have R : Hid (¬ badP l 4 i k) := fun h => by
          unfold badP at h
          rw [if_neg (by decide), if_neg (by decide), if_neg (by decide), HX.out, HY.out, HBB.out] at h
          cases h.2.2.1
        go_wp2
        go_ret
        exact bad_no R.out HW1.out
      · go_wp2_with fail
        refine (HPO.out _ _ HW1.out).mono ?_
        rintro e w2 ⟨nq, rfl, hlq, hb2⟩
        have HLQ := hideIt hlq
        have HW2 := hideIt (HW1.out.trans (hb2.mono HW1.out.size))
        have y2 : w2.cell? ⟨w.heap.size + 1, 3, none⟩ = some (.int .i64 y.a) := (hb2.cell (p := ⟨w.heap.size + 1, 3, none⟩) hs1).trans y1
        have x2 : w2.cell? ⟨w.heap.size, 3, none⟩ = some (.int .i64 x.a) := (hb2.cell (p := ⟨w.heap.size, 3, none⟩) (by show w.heap.size < _; omega)).trans x1
        have hs2 : w.heap.size + 1 < w2.heap.size := Nat.lt_of_lt_of_le hs1 hb2.size
        clear hlq hb2 y1 x1
        by_cases hq0 : nq < 0
        · have R : Hid (¬ badP l 4 i k) := fun h => by
            unfold badP at h
            rw [if_neg (by decide), if_neg (by decide), if_neg (by decide), HX.out, HY.out] at h
            obtain ⟨q, hq, pq, lq, _⟩ := h.2.2.2
            have : nq = q := HLQ.out.one (.inr ⟨q, hq, rfl, pq, fun m hm h => lq m hm h⟩)
            omega
          go_wp2
          go_ret
          exact bad_no R.out HW2.out
        · go_wp2_with fail
          refine (HPO.out _ _ HW2.out).mono ?_
          rintro e w3 ⟨nx, rfl, hlx, hb3⟩
          have HLX := hideIt hlx
          have HW3 := hideIt (HW2.out.trans (hb3.mono HW2.out.size))
          have y3 : w3.cell? ⟨w.heap.size + 1, 3, none⟩ = some (.int .i64 y.a) := (hb3.cell (p := ⟨w.heap.size + 1, 3, none⟩) hs2).trans y2
          have hs3 : w.heap.size + 1 < w3.heap.size := Nat.lt_of_lt_of_le hs2 hb3.size
          have HIF := hideIt (bad4_iff HX.out HY.out HLQ.out HLX.out)
          clear hlx hb3 y2 x2
          by_cases hx0 : nx < 0
          · have R : Hid (badP l 4 i k) := HIF.out.2 ⟨HD.out.1, HD.out.2, HBB.out, by omega, .inl hx0⟩
            have hx0' : decide (nx < 0) = true := by simp [hx0]
            go_wp2_with fail
            go_big_quiet (fail)
            go_wp2
            go_ret
            exact bad_yes R.out (below_drewN HW3.out _)
          · have hx0' : decide (nx < 0) = false := by simp [hx0]
            obtain ⟨q, hq, rfl⟩ : ∃ q : Nat, q < l.length ∧ nq = q := by
              rcases HLQ.out with ⟨e, _⟩ | ⟨q, hq, e, _⟩
              · omega
              · exact ⟨q, hq, e⟩
            obtain ⟨t, ht, rfl⟩ : ∃ t : Nat, t < l.length ∧ nx = t := by
              rcases HLX.out with ⟨e, _⟩ | ⟨t, ht, e, _⟩
              · omega
              · exact ⟨t, ht, e⟩
            have HPQ : Hid (∀ W : World, Below w.heap.size w W → Calls Tryd.prog 43 #[.slice (some ⟨b, off, none⟩) l.length cap, .int .i64 y.a] W fun e w' => e = .returned (.int .i64 (q : Int)) ∧ Below W.heap.size W w') := fun W hW => (HPO.out y.a W hW).mono fun e w' ⟨n', he, hlp, hbe⟩ => ⟨by rw [he, hlp.one HLQ.out], hbe⟩
            have e1 : opZ l q = l[q] := opZ_at hq
            have e2 : opZ l t = l[t] := opZ_at ht
            have HIF2 : Hid (badP l 4 i k ↔ beforeB l[q] l[t] = true) := by
              show badP l 4 i k ↔ _
              rw [HIF.out, show ((q : Int)).toNat = q from by omega, show ((t : Int)).toNat = t from by omega, e1, e2]
              exact ⟨fun h => by rcases h.2.2.2.2 with h | h; omega; exact h, fun h => ⟨HD.out.1, HD.out.2, HBB.out, by omega, .inr h⟩⟩
            have HOP : Hid (∀ W, Below w.heap.size w W → OpAt W b (off + q * 8) l[q] ∧ OpAt W b (off + t * 8) l[t]) := fun W hW => ⟨(HL.out q hq).below hb hW, (HL.out t ht).below hb hW⟩
            have HB2 := hideIt (HB.out l[q] l[t])
            obtain ⟨u, HU⟩ : ∃ u, Hid (l[q] = u) := ⟨_, hideIt rfl⟩
            obtain ⟨v, HV⟩ : ∃ v, Hid (l[t] = v) := ⟨_, hideIt rfl⟩
            rw [HU.out, HV.out] at HOP HB2 HIF2
            obtain ⟨⟨c0, c1, c2, c3, c4, c5, c6, c7⟩, d0, d1, d2, d3, d4, d5, d6, d7⟩ := HOP.out w3 HW3.out
            obtain ⟨bz, HBZ⟩ : ∃ bz, Hid (beforeB u v = bz) := ⟨_, hideIt rfl⟩
            rw [HBZ.out] at HB2 HIF2
            have hqI : (q : Int) < (l.length : Int) := by omega
            have htI : (t : Int) < (l.length : Int) := by omega
            clear e1 e2 HIF HLQ HLX hq0 hx0
            go_wp2_with fail
            go_region_held3 (fun w' => w'.cell? ⟨b, off + q * 8, none⟩ = some (.int .i64 u.p) ∧ w'.cell? ⟨b, off + q * 8 + 1, none⟩ = some (.int .i64 u.k) ∧ w'.cell? ⟨b, off + q * 8 + 2, none⟩ = some (.int .i64 u.d) ∧ w'.cell? ⟨b, off + q * 8 + 3, none⟩ = some (.int .i64 u.a) ∧ w'.cell? ⟨b, off + q * 8 + 4, none⟩ = some (.int .i64 u.b) ∧ w'.cell? ⟨b, off + q * 8 + 5, none⟩ = some (.int .i64 u.r) ∧ w'.cell? ⟨b, off + q * 8 + 6, none⟩ = some (.int .i64 u.c) ∧ w'.cell? ⟨b, off + q * 8 + 7, none⟩ = some (.int .i64 u.e) ∧ w'.cell? ⟨b, off + t * 8, none⟩ = some (.int .i64 v.p) ∧ w'.cell? ⟨b, off + t * 8 + 1, none⟩ = some (.int .i64 v.k) ∧ w'.cell? ⟨b, off + t * 8 + 2, none⟩ = some (.int .i64 v.d) ∧ w'.cell? ⟨b, off + t * 8 + 3, none⟩ = some (.int .i64 v.a) ∧ w'.cell? ⟨b, off + t * 8 + 4, none⟩ = some (.int .i64 v.b) ∧ w'.cell? ⟨b, off + t * 8 + 5, none⟩ = some (.int .i64 v.r) ∧ w'.cell? ⟨b, off + t * 8 + 6, none⟩ = some (.int .i64 v.c) ∧ w'.cell? ⟨b, off + t * 8 + 7, none⟩ = some (.int .i64 v.e) ∧ w'.cell? ⟨w.heap.size + 1, 3, none⟩ = some (.int .i64 y.a)) (go_keep)
              (first | (go_at_call 43; refine (HPQ.out _ (by repeat (first | exact HW3.out | refine Below.drew ?_))).mono ?_; rintro e w4 ⟨rfl, hb4⟩; have HX4 := hideIt (show Below w3.heap.size w3 w4 from belJ (by repeat (first | exact Below.refl _ _ | refine Below.drew ?_)) hb4); have HW4 := hideIt (show Below w.heap.size w w4 from HW3.out.trans (HX4.out.mono HW3.out.size)); have y4 : w4.cell? ⟨w.heap.size + 1, 3, none⟩ = some (.int .i64 y.a) := (HX4.out.cell (p := ⟨w.heap.size + 1, 3, none⟩) hs3).trans y3; obtain ⟨⟨g0, g1, g2, g3, g4, g5, g6, g7⟩, k0, k1, k2, k3, k4, k5, k6, k7⟩ := HOP.out w4 HW4.out; clear hb4) | (go_at_call 42; refine (HB2.out _).mono ?_; rintro e w5 ⟨rfl, hb5⟩; have HX5 := hideIt (show Below w4.heap.size w4 w5 from belJ (by repeat (first | exact Below.refl _ _ | refine Below.drew ?_)) hb5); have HW5 := hideIt (show Below w.heap.size w w5 from HW4.out.trans (HX5.out.mono HW4.out.size)); have y5 : w5.cell? ⟨w.heap.size + 1, 3, none⟩ = some (.int .i64 y.a) := (HX5.out.cell (p := ⟨w.heap.size + 1, 3, none⟩) (Nat.lt_of_lt_of_le hs3 HX4.out.size)).trans y4; obtain ⟨⟨p0, p1, p2, p3, p4, p5, p6, p7⟩, r0, r1, r2, r3, r4, r5, r6, r7⟩ := HOP.out w5 HW5.out; clear hb5))
            all_goals
              go_wp2
              go_ret
              exact ⟨bz, rfl, HIF2.out.symm, by first | exact HW5.out | exact HW5.out.drew⟩
    · have b1 : (y.d == 10) = true := by simp [hdy]
      have b2 : (y.d == 9) = false := by simp [hdy]
      have R := hideIt (hno (.inr (by omega)))
      clear hdx hdy hno
      go_enter Tryd.func29, Tryd.ntmps29
      go_wp2
      go_ret
      exact bad_no R.out (belA (belA (Below.refl _ _) _) _)
  · have a1 : (x.d == 10) = true := by simp [hdx]
    have a2 : (x.d == 9) = false := by simp [hdx]
    have R := hideIt (hno (.inl (by omega)))
    clear hdx hno
    rcases hdy with hdy | hdy
    all_goals
      go_enter Tryd.func29, Tryd.ntmps29
      go_wp2
      go_ret
      exact bad_no R.out (belA (belA (Below.refl _ _) _) _)

end

end Go.Proofs.YtelndpbkheoeaaaDoor

namespace Go.Proofs.YtelndpbkheoeaaaDoor
open Go.RowKit

theorem size_lt_allocQ (w : World) (o : Obj) : w.heap.size < (w.alloc o).heap.size := by simp
theorem opAt_newQ (w : World) (x : Opn) : OpAt (w.alloc (.cells #[.int .i64 x.p, .int .i64 x.k, .int .i64 x.d, .int .i64 x.a, .int .i64 x.b, .int .i64 x.r, .int .i64 x.c, .int .i64 x.e] 54)) w.heap.size 0 x := ⟨by simp, by simp, by simp, by simp, by simp, by simp, by simp, by simp⟩

theorem bad_any (l : List Opn) (ok : QOk l) (c i k b off cap : Nat) (w : World) (h1 : 1 ≤ c) (h4 : c ≤ 4) (hi : i < l.length) (hk : k < l.length) (hlen : l.length ≤ 60) (hl : OpsAt w b off l) (hb : b < w.heap.size) :
    Calls Tryd.prog 29 #[.slice (some ⟨b, off, none⟩) l.length cap, .int .i64 c, .int .i64 i, .int .i64 k, (opZ l i).agg, (opZ l k).agg] w fun e w' => BadT l c i k w e w' := by
  have hc : c = 1 ∨ c = 2 ∨ c = 3 ∨ c = 4 := by omega
  rcases hc with rfl | rfl | rfl | rfl
  · exact bad1_any l i k b off cap _ _ w hlen hl hb rfl (ok.kind i hi) (ok.kind k hk)
  · exact bad2_any l i k b off cap _ _ w rfl rfl (ok.kind i hi) (ok.kind k hk)
  · exact bad3_any l i k b off cap _ _ w rfl rfl (ok.kind i hi) (ok.kind k hk)
  · exact bad4_any l i k b off cap _ _ w hlen hl hb rfl rfl (ok.kind i hi) (ok.kind k hk)

set_option maxHeartbeats 2000000 in
theorem rFinds_some (l : List Opn) (b off cap : Nat) (w : World) (ok : QOk l) (hlen : l.length ≤ 60) (hl : OpsAt w b off l) (hb : b < w.heap.size) :
    Calls Tryd.prog 15 #[.slice (some ⟨b, off, none⟩) l.length cap] w fun e w' => ∃ c p q, e = .returned (.tuple #[.int .i64 c, .int .i64 p, .int .i64 q]) ∧ FindsT l c p q ∧ Below w.heap.size w w' := by
  have HL := hideIt hl
  have HOK := hideIt ok
  have HBA : Hid (∀ (c i k : Nat) (W : World), 1 ≤ c → c ≤ 4 → i < l.length → k < l.length → Below w.heap.size w W → Calls Tryd.prog 29 #[.slice (some ⟨b, off, none⟩) l.length cap, .int .i64 c, .int .i64 i, .int .i64 k, (opZ l i).agg, (opZ l k).agg] W fun e w' => BadT l c i k W e w') := fun c i k W h1 h4 hi hk hW => bad_any l HOK.out c i k b off cap W h1 h4 hi hk hlen (HL.out.below hb hW) (Nat.lt_of_lt_of_le hb hW.size)
  clear hl ok
  go_enter Tryd.func15, Tryd.ntmps15
  go_wp2
  go_loopw [5] (fun j wr => ∃ c : Nat, 1 ≤ c ∧ c ≤ 5 ∧ j = .int .i64 c ∧ (∀ d : Int, 1 ≤ d → d < c → noBad l d) ∧ Below w.heap.size w wr) (fun j _ => 6 - (intOf j).toNat)
  case atStart => exact ⟨1, by omega, by omega, rfl, fun d h1 h2 => absurd h2 (by omega), Below.refl _ _⟩
  case round =>
    obtain ⟨c, hc1, hc5, rfl, hbad, hnx⟩ := hrel
    have HBAD := hideIt hbad
    have HNX := hideIt hnx
    clear hbad
    by_cases hc : c ≤ 4
    · have hcI : (c : Int) ≤ 4 := by omega
      go_wp2
      go_loopw [16] (fun j wy => ∃ i : Nat, i ≤ l.length ∧ j = .int .i64 i ∧ (∀ i' k', i' < i → k' < l.length → ¬ badP l c i' k') ∧ Below w.heap.size w wy) (fun j _ => l.length - (intOf j).toNat)
      case atStart => exact ⟨0, Nat.zero_le _, rfl, fun i' k' h => absurd h (by omega), HNX.out⟩
      case round =>
        obtain ⟨i, hi, rfl, hib, hny⟩ := hrel
        have HIB := hideIt hib
        have HNY := hideIt hny
        clear hib
        by_cases hil : i < l.length
        · obtain ⟨c0, c1, c2, c3, c4, c5, c6, c7⟩ := (HL.out i hil).below hb hny
          have HX : Hid (opZ l i = l[i]) := opZ_at hil
          generalize l[i] = x at c0 c1 c2 c3 c4 c5 c6 c7 HX
          go_wp2
          go_loopw [23] (fun j wz => ∃ k : Nat, k ≤ l.length ∧ j = .int .i64 k ∧ (∀ k', k' < k → ¬ badP l c i k') ∧ Below (wr.alloc (.cells #[.int .i64 x.p, .int .i64 x.k, .int .i64 x.d, .int .i64 x.a, .int .i64 x.b, .int .i64 x.r, .int .i64 x.c, .int .i64 x.e] 54)).heap.size (wr.alloc (.cells #[.int .i64 x.p, .int .i64 x.k, .int .i64 x.d, .int .i64 x.a, .int .i64 x.b, .int .i64 x.r, .int .i64 x.c, .int .i64 x.e] 54)) wz) (fun j _ => l.length - (intOf j).toNat)
          case atStart => exact ⟨0, Nat.zero_le _, rfl, fun k' h => absurd h (by omega), Below.refl _ _⟩
          case round =>
            obtain ⟨k, hk, rfl, hkb, hnz⟩ := hrel
            have HKB := hideIt hkb
            have HNZ := hideIt hnz
            have HBW := hideIt ((belA HNY.out (.cells #[.int .i64 x.p, .int .i64 x.k, .int .i64 x.d, .int .i64 x.a, .int .i64 x.b, .int .i64 x.r, .int .i64 x.c, .int .i64 x.e] 54)).trans (hnz.mono (belA HNY.out _).size))
            have hxl := Nat.lt_of_lt_of_le (size_lt_allocQ _ _) hnz.size
            obtain ⟨x0, x1, x2, x3, x4, x5, x6, x7⟩ := (opAt_newQ _ x).below (size_lt_allocQ _ _) hnz
            rw [Nat.zero_add] at x1 x2 x3 x4 x5 x6 x7
            clear hkb hnz
            by_cases hkl : k < l.length
            · obtain ⟨d0, d1, d2, d3, d4, d5, d6, d7⟩ := (HL.out k hkl).below hb HBW.out
              have hbl : b < wr.heap.size := Nat.lt_of_lt_of_le hb HBW.out.size
              have HY : Hid (opZ l k = l[k]) := opZ_at hkl
              generalize l[k] = y at d0 d1 d2 d3 d4 d5 d6 d7 HY
              have HC := hideIt (fun W hW => HBA.out c i k W hc1 hc hil hkl hW)
              rw [HX.out, HY.out] at HC
              have y0 : ∀ o : Obj, (wr.alloc o).cell? _ = some (.int .i64 x.p) := fun o => (World.cell?_alloc_lt _ _ _ hxl).trans x0
              have y1 : ∀ o : Obj, (wr.alloc o).cell? _ = some (.int .i64 x.k) := fun o => (World.cell?_alloc_lt _ _ _ hxl).trans x1
              have y2 : ∀ o : Obj, (wr.alloc o).cell? _ = some (.int .i64 x.d) := fun o => (World.cell?_alloc_lt _ _ _ hxl).trans x2
              have y3 : ∀ o : Obj, (wr.alloc o).cell? _ = some (.int .i64 x.a) := fun o => (World.cell?_alloc_lt _ _ _ hxl).trans x3
              have y4 : ∀ o : Obj, (wr.alloc o).cell? _ = some (.int .i64 x.b) := fun o => (World.cell?_alloc_lt _ _ _ hxl).trans x4
              have y5 : ∀ o : Obj, (wr.alloc o).cell? _ = some (.int .i64 x.r) := fun o => (World.cell?_alloc_lt _ _ _ hxl).trans x5
              have y6 : ∀ o : Obj, (wr.alloc o).cell? _ = some (.int .i64 x.c) := fun o => (World.cell?_alloc_lt _ _ _ hxl).trans x6
              have y7 : ∀ o : Obj, (wr.alloc o).cell? _ = some (.int .i64 x.e) := fun o => (World.cell?_alloc_lt _ _ _ hxl).trans x7
              unfold Opn.agg at HC
              go_wp2_with fail
              refine (HC.out _ (belA HBW.out _)).mono ?_
              rintro e w4 ⟨bb, rfl, hbb, hb4⟩
              have HBB := hideIt hbb
              clear hbb
              cases bb
              · have R1 : Hid (∀ k', k' < k + 1 → ¬ badP l c i k') := fun k' h hbp => by
                  by_cases e : k' = k
                  · subst e; have := HBB.out.2 hbp; cases this
                  · exact HKB.out k' (by omega) hbp
                have R2 := hideIt ((HNZ.out.alloc HNZ.out.size (.cells #[.int .i64 y.p, .int .i64 y.k, .int .i64 y.d, .int .i64 y.a, .int .i64 y.b, .int .i64 y.r, .int .i64 y.c, .int .i64 y.e] 54)).trans (hb4.mono (Nat.le_trans HNZ.out.size (by simp))))
                clear hb4
                go_wp2
                go_roundw
                case rel => exact ⟨k + 1, by omega, by go_num, R1.out, R2.out⟩
                case measure => simp [intOf]; omega
              · have R1 : Hid (FindsT l c i k) := .inr ⟨by omega, by omega, HBAD.out, i, k, hil, hkl, rfl, rfl, HBB.out.1 rfl, fun i' k' hi' hk' hbp => by
                  unfold lexLe
                  rcases Nat.lt_trichotomy i' i with h | h | h
                  · exact absurd hbp (HIB.out i' k' h hk')
                  · subst h
                    rcases Nat.lt_or_ge k' k with h2 | h2
                    · exact absurd hbp (HKB.out k' h2)
                    · omega
                  · omega⟩
                have R2 := hideIt ((belA HBW.out (.cells #[.int .i64 y.p, .int .i64 y.k, .int .i64 y.d, .int .i64 y.a, .int .i64 y.b, .int .i64 y.r, .int .i64 y.c, .int .i64 y.e] 54)).trans (hb4.mono (Nat.le_trans HBW.out.size (by simp))))
                clear hb4
                go_wp2
                go_ret3
                exact ⟨c, i, k, rfl, R1.out, R2.out⟩
            · have R1 : Hid (∀ i' k', i' < i + 1 → k' < l.length → ¬ badP l c i' k') := fun i' k' h hk' hbp => by
                by_cases e : i' = i
                · subst e; exact HKB.out k' (by omega) hbp
                · exact HIB.out i' k' (by omega) hk' hbp
              go_wp2
              go_roundw
              case rel => exact ⟨i + 1, by omega, by go_num, R1.out, HBW.out⟩
              case measure => simp [intOf]; omega
        · have R1 : Hid (∀ d : Int, 1 ≤ d → d < (c + 1 : Nat) → noBad l d) := fun d h1 h2 => by
            by_cases e : d = c
            · subst e; exact fun i' k' hi' hk' => HIB.out i' k' (by omega) hk'
            · exact HBAD.out d h1 (by omega)
          go_wp2
          go_roundw
          case rel => exact ⟨c + 1, by omega, by omega, by go_num, R1.out, HNY.out⟩
          case measure => simp [intOf]; omega
    · have hcI : ¬ (c : Int) ≤ 4 := by omega
      have R1 : Hid (FindsT l 0 0 0) := .inl ⟨rfl, rfl, rfl, fun d h1 h4 => HBAD.out d h1 (by omega)⟩
      go_wp2
      go_ret3
      exact ⟨0, 0, 0, rfl, R1.out, HNX.out⟩

end Go.Proofs.YtelndpbkheoeaaaDoor
