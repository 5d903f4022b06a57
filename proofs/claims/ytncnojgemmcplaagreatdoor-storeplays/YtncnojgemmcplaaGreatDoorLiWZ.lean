/-
  Package net's Whole, Halves, Bridge, Ring, Alone, and plain.Links, walked.
  Chapter 17: the program's own way against the document's (plain).
-/
import Derived.Test.YtncnojgemmcplaaGreatDoorLrWZ
import Derived.Shelf.Abstract
import Derived.Test.YtncnojgemmcplaaGreatDoorSpAZ
import Derived.Test.YtncnojgemmcplaaGreatDoorAbX
namespace Go.Proofs.YtncnojgemmcplaaGreatDoor.St
open Go.RowKit

/-- What is told of a number that may not be. -/
def badV (c : Int) : Value := .tuple #[.slice none 0 0, .iface 38 (.int .i64 c)]
/-- Which rule a move names. -/
def ruleW (what : Int) : Int := if 7 ≤ what ∧ what ≤ 10 then what - 7 else 4
theorem DrawTold.from {w w1 : World} {n : Nat} {r : Nat → Nat → Bool} {e : Ending} {w' : World} (h : DrawTold w1 n r e w') (hb : Below w.heap.size w w1) : DrawTold w n r e w' := by
  obtain ⟨lv, e1, h1, h2⟩ := h
  exact ⟨lv, e1, h1.mono fun _ _ h => ⟨Nat.le_trans hb.size h.1, h.2⟩, belJ hb h2⟩

set_option maxRecDepth 100000 in
set_option maxHeartbeats 1000000 in
theorem whole_any (x who : Int) (w : World) : Calls Tryz.prog 60 #[.int .i64 x] w fun e w' => ((x < 1 ∨ 7 < x) ∧ e = .returned (badV 4) ∧ Below w.heap.size w w') ∨ ∃ n : Nat, x = n ∧ (1 ≤ n ∧ n ≤ 7) ∧ DrawTold w n (linkN 0 n who) e w' := by
  by_cases hx : x < 1 ∨ 7 < x
  · have HD := hideIt (draw_bad x (.func (.func 97) #[] #[]) hx w)
    go_enter Tryz.func60, Tryz.ntmps60
    go_wp2_with fail
    refine HD.out.mono ?_
    rintro e w1 ⟨rfl, rfl⟩
    go_wp2
    go_ret2
    exact .inl ⟨hx, rfl, Below.refl _ _⟩
  · obtain ⟨n, rfl⟩ : ∃ n : Nat, x = n := ⟨x.toNat, by omega⟩
    have hn : 1 ≤ n ∧ n ≤ 7 := by omega
    have HD := hideIt (draw_any n hn 97 #[] _ w (whole_rule w n who) (enters_of Tryz.func97 (by kernel_rfl) rfl))
    clear hx
    go_enter Tryz.func60, Tryz.ntmps60
    go_wp2_with fail
    refine HD.out.mono ?_
    rintro e w1 ⟨lv, rfl, h1, h2⟩
    have H1 := hideIt h1
    have H2 := hideIt h2
    clear h1 h2 HD
    go_wp2
    go_ret2
    exact .inr ⟨n, rfl, hn, lv, rfl, H1.out, H2.out⟩

set_option maxRecDepth 100000 in
set_option maxHeartbeats 1000000 in
theorem halves_any (x who : Int) (w : World) : Calls Tryz.prog 61 #[.int .i64 x] w fun e w' => ((x < 1 ∨ 7 < x) ∧ e = .returned (badV 4) ∧ Below w.heap.size w w') ∨ ∃ n : Nat, x = n ∧ (1 ≤ n ∧ n ≤ 7) ∧ DrawTold w n (linkN 1 n who) e w' := by
  have HB := hideIt (belA (Below.refl _ w) (.cells #[.int .i64 x] 3))
  by_cases hx : x < 1 ∨ 7 < x
  · have HD := hideIt (draw_bad x (.func (.func 98) #[] #[.pointer (some ⟨w.heap.size, 0, none⟩)]) hx (w.alloc (.cells #[.int .i64 x] 3)))
    go_enter Tryz.func61, Tryz.ntmps61
    go_wp2_with fail
    refine HD.out.mono ?_
    rintro e w1 ⟨rfl, rfl⟩
    go_wp2
    go_ret2
    exact .inl ⟨hx, rfl, HB.out⟩
  · obtain ⟨n, rfl⟩ : ∃ n : Nat, x = n := ⟨x.toNat, by omega⟩
    have hn : 1 ≤ n ∧ n ≤ 7 := by omega
    have HD := hideIt (draw_any n hn 98 #[.pointer (some ⟨w.heap.size, 0, none⟩)] _ (w.alloc (.cells #[.int .i64 (n : Int)] 3)) (halves_rule _ n hn who w.heap.size (heap_alloc_new w _)) (enters_of Tryz.func98 (by kernel_rfl) rfl))
    clear hx
    go_enter Tryz.func61, Tryz.ntmps61
    go_wp2_with fail
    refine HD.out.mono ?_
    intro e w1 h1
    have h2 := h1.from HB.out
    obtain ⟨lv, rfl, h3, h4⟩ := h2
    have H1 := hideIt h3
    have H2 := hideIt h4
    clear h1 h3 h4 HD
    go_wp2
    go_ret2
    exact .inr ⟨n, rfl, hn, lv, rfl, H1.out, H2.out⟩

set_option maxRecDepth 100000 in
set_option maxHeartbeats 1000000 in
theorem bridge_any (x who : Int) (w : World) : Calls Tryz.prog 62 #[.int .i64 x] w fun e w' => ((x < 1 ∨ 7 < x) ∧ e = .returned (badV 4) ∧ Below w.heap.size w w') ∨ ∃ n : Nat, x = n ∧ (1 ≤ n ∧ n ≤ 7) ∧ DrawTold w n (linkN 2 n who) e w' := by
  have HB := hideIt (belA (Below.refl _ w) (.cells #[.int .i64 x] 3))
  by_cases hx : x < 1 ∨ 7 < x
  · have HD := hideIt (draw_bad x (.func (.func 100) #[] #[.pointer (some ⟨w.heap.size, 0, none⟩)]) hx (w.alloc (.cells #[.int .i64 x] 3)))
    go_enter Tryz.func62, Tryz.ntmps62
    go_wp2_with fail
    refine HD.out.mono ?_
    rintro e w1 ⟨rfl, rfl⟩
    go_wp2
    go_ret2
    exact .inl ⟨hx, rfl, HB.out⟩
  · obtain ⟨n, rfl⟩ : ∃ n : Nat, x = n := ⟨x.toNat, by omega⟩
    have hn : 1 ≤ n ∧ n ≤ 7 := by omega
    have HD := hideIt (draw_any n hn 100 #[.pointer (some ⟨w.heap.size, 0, none⟩)] _ (w.alloc (.cells #[.int .i64 (n : Int)] 3)) (bridge_rule _ n hn who w.heap.size (heap_alloc_new w _)) (enters_of Tryz.func100 (by kernel_rfl) rfl))
    clear hx
    go_enter Tryz.func62, Tryz.ntmps62
    go_wp2_with fail
    refine HD.out.mono ?_
    intro e w1 h1
    have h2 := h1.from HB.out
    obtain ⟨lv, rfl, h3, h4⟩ := h2
    have H1 := hideIt h3
    have H2 := hideIt h4
    clear h1 h3 h4 HD
    go_wp2
    go_ret2
    exact .inr ⟨n, rfl, hn, lv, rfl, H1.out, H2.out⟩

set_option maxRecDepth 100000 in
set_option maxHeartbeats 1000000 in
theorem ring_any (x who : Int) (w : World) : Calls Tryz.prog 63 #[.int .i64 x] w fun e w' => ((x < 1 ∨ 7 < x) ∧ e = .returned (badV 4) ∧ Below w.heap.size w w') ∨ ∃ n : Nat, x = n ∧ (1 ≤ n ∧ n ≤ 7) ∧ DrawTold w n (linkN 3 n who) e w' := by
  have HB := hideIt (belA (Below.refl _ w) (.cells #[.int .i64 x] 3))
  by_cases hx : x < 1 ∨ 7 < x
  · have HD := hideIt (draw_bad x (.func (.func 101) #[] #[.pointer (some ⟨w.heap.size, 0, none⟩)]) hx (w.alloc (.cells #[.int .i64 x] 3)))
    go_enter Tryz.func63, Tryz.ntmps63
    go_wp2_with fail
    refine HD.out.mono ?_
    rintro e w1 ⟨rfl, rfl⟩
    go_wp2
    go_ret2
    exact .inl ⟨hx, rfl, HB.out⟩
  · obtain ⟨n, rfl⟩ : ∃ n : Nat, x = n := ⟨x.toNat, by omega⟩
    have hn : 1 ≤ n ∧ n ≤ 7 := by omega
    have HD := hideIt (draw_any n hn 101 #[.pointer (some ⟨w.heap.size, 0, none⟩)] _ (w.alloc (.cells #[.int .i64 (n : Int)] 3)) (ring_rule _ n hn who w.heap.size (heap_alloc_new w _)) (enters_of Tryz.func101 (by kernel_rfl) rfl))
    clear hx
    go_enter Tryz.func63, Tryz.ntmps63
    go_wp2_with fail
    refine HD.out.mono ?_
    intro e w1 h1
    have h2 := h1.from HB.out
    obtain ⟨lv, rfl, h3, h4⟩ := h2
    have H1 := hideIt h3
    have H2 := hideIt h4
    clear h1 h3 h4 HD
    go_wp2
    go_ret2
    exact .inr ⟨n, rfl, hn, lv, rfl, H1.out, H2.out⟩

/-- What plain.Links tells. -/
def LinksTold (rule x who : Int) (w : World) (e : Ending) (w' : World) : Prop :=
  ((x < 1 ∨ 7 < x) ∧ e = .returned (badV 4) ∧ Below w.heap.size w w') ∨
  ((1 ≤ x ∧ x ≤ 7) ∧ rule = 4 ∧ (who < 0 ∨ x ≤ who) ∧ e = .returned (badV 2) ∧ Below w.heap.size w w') ∨
  ∃ n : Nat, x = n ∧ (1 ≤ n ∧ n ≤ 7) ∧ (rule = 4 → 0 ≤ who ∧ who < x) ∧ DrawTold w n (linkN rule n who) e w'

set_option maxRecDepth 100000 in
set_option maxHeartbeats 1000000 in
theorem alone_any (x who : Int) (w : World) : Calls Tryz.prog 64 #[.int .i64 x, .int .i64 who] w fun e w' => LinksTold 4 x who w e w' := by
  have HB := hideIt (belA (Below.refl _ w) (.cells #[.int .i64 who] 3))
  by_cases hx : x < 1 ∨ 7 < x
  · have HD := hideIt (draw_bad x (.func (.func 102) #[] #[.pointer (some ⟨w.heap.size, 0, none⟩)]) hx (w.alloc (.cells #[.int .i64 who] 3)))
    go_enter Tryz.func64, Tryz.ntmps64
    go_wp2_with fail
    refine HD.out.mono ?_
    rintro e w1 ⟨rfl, rfl⟩
    go_wp2
    go_ret2
    exact .inl ⟨hx, rfl, HB.out⟩
  · obtain ⟨n, rfl⟩ : ∃ n : Nat, x = n := ⟨x.toNat, by omega⟩
    have hn : 1 ≤ n ∧ n ≤ 7 := by omega
    have HD := hideIt (draw_any n hn 102 #[.pointer (some ⟨w.heap.size, 0, none⟩)] _ (w.alloc (.cells #[.int .i64 who] 3)) (alone_rule _ n 4 who (.inr (by decide)) w.heap.size (heap_alloc_new w _)) (enters_of Tryz.func102 (by kernel_rfl) rfl))
    clear hx
    go_enter Tryz.func64, Tryz.ntmps64
    go_wp2_with fail
    refine HD.out.mono ?_
    intro e w1 h1
    obtain ⟨lv0, e0, h0, hb0⟩ := h1
    have c0 : w1.cell? ⟨w.heap.size, 0, none⟩ = some (.int .i64 who) := (hb0.cell (p := ⟨w.heap.size, 0, none⟩) (by simp)).trans (cell_of_row _ _ _ _ 3 _ (heap_alloc_new w _))
    have h2 := DrawTold.from ⟨lv0, e0, h0, hb0⟩ HB.out
    obtain ⟨lv, rfl, h3, h4⟩ := h2
    have H1 := hideIt h3
    have H2 := hideIt h4
    clear h3 h4 HD e0 h0 hb0
    by_cases g1 : who < 0
    · have g1' : decide (who < 0) = true := decide_eq_true g1
      go_wp2
      go_ret2
      exact .inr (.inl ⟨by omega, rfl, .inl g1, rfl, H2.out⟩)
    have g1' : decide (who < 0) = false := decide_eq_false g1
    by_cases g2 : (n : Int) ≤ who
    · have g2' : decide (who ≥ (n : Int)) = true := decide_eq_true g2
      go_wp2
      go_ret2
      exact .inr (.inl ⟨by omega, rfl, .inr g2, rfl, H2.out⟩)
    have g2' : decide (who ≥ (n : Int)) = false := decide_eq_false g2
    go_wp2
    go_ret2
    exact .inr (.inr ⟨n, rfl, hn, fun _ => by omega, lv, rfl, H1.out, H2.out⟩)

set_option maxRecDepth 100000 in
set_option maxHeartbeats 1000000 in
theorem links_any (what x who : Int) (w : World) : Calls Tryz.prog 31 #[.int .i64 what, .int .i64 x, .int .i64 who] w fun e w' => LinksTold (ruleW what) x who w e w' := by
  by_cases e0 : what = 7
  · subst e0
    have HC := hideIt (whole_any x who w)
    go_enter Tryz.func31, Tryz.ntmps31
    go_wp2_with fail
    refine HC.out.mono ?_
    rintro e w1 (⟨h1, rfl, h2⟩ | ⟨n, rfl, h1, lv, rfl, h3, h4⟩)
    · have H2 := hideIt h2
      clear h2 HC
      unfold badV
      go_wp2
      go_ret2
      exact .inl ⟨h1, rfl, H2.out⟩
    · have H3 := hideIt h3
      have H4 := hideIt h4
      clear h3 h4 HC
      go_wp2
      go_ret2
      exact .inr (.inr ⟨n, rfl, h1, fun h => absurd h (by decide), lv, rfl, H3.out, H4.out⟩)
  have e0' : (what == 7) = false := by simp [e0]
  by_cases e1 : what = 8
  · subst e1
    have HC := hideIt (halves_any x who w)
    go_enter Tryz.func31, Tryz.ntmps31
    go_wp2_with fail
    refine HC.out.mono ?_
    rintro e w1 (⟨h1, rfl, h2⟩ | ⟨n, rfl, h1, lv, rfl, h3, h4⟩)
    · have H2 := hideIt h2
      clear h2 HC
      unfold badV
      go_wp2
      go_ret2
      exact .inl ⟨h1, rfl, H2.out⟩
    · have H3 := hideIt h3
      have H4 := hideIt h4
      clear h3 h4 HC
      go_wp2
      go_ret2
      exact .inr (.inr ⟨n, rfl, h1, fun h => absurd h (by decide), lv, rfl, H3.out, H4.out⟩)
  have e1' : (what == 8) = false := by simp [e1]
  by_cases e2 : what = 9
  · subst e2
    have HC := hideIt (bridge_any x who w)
    go_enter Tryz.func31, Tryz.ntmps31
    go_wp2_with fail
    refine HC.out.mono ?_
    rintro e w1 (⟨h1, rfl, h2⟩ | ⟨n, rfl, h1, lv, rfl, h3, h4⟩)
    · have H2 := hideIt h2
      clear h2 HC
      unfold badV
      go_wp2
      go_ret2
      exact .inl ⟨h1, rfl, H2.out⟩
    · have H3 := hideIt h3
      have H4 := hideIt h4
      clear h3 h4 HC
      go_wp2
      go_ret2
      exact .inr (.inr ⟨n, rfl, h1, fun h => absurd h (by decide), lv, rfl, H3.out, H4.out⟩)
  have e2' : (what == 9) = false := by simp [e2]
  by_cases e3 : what = 10
  · subst e3
    have HC := hideIt (ring_any x who w)
    go_enter Tryz.func31, Tryz.ntmps31
    go_wp2_with fail
    refine HC.out.mono ?_
    rintro e w1 (⟨h1, rfl, h2⟩ | ⟨n, rfl, h1, lv, rfl, h3, h4⟩)
    · have H2 := hideIt h2
      clear h2 HC
      unfold badV
      go_wp2
      go_ret2
      exact .inl ⟨h1, rfl, H2.out⟩
    · have H3 := hideIt h3
      have H4 := hideIt h4
      clear h3 h4 HC
      go_wp2
      go_ret2
      exact .inr (.inr ⟨n, rfl, h1, fun h => absurd h (by decide), lv, rfl, H3.out, H4.out⟩)
  have e3' : (what == 10) = false := by simp [e3]
  have hr : ruleW what = 4 := by unfold ruleW; rw [if_neg (by omega)]
  rw [hr]
  have HC := hideIt (alone_any x who w)
  clear hr e0 e1 e2 e3
  go_enter Tryz.func31, Tryz.ntmps31
  go_wp2_with fail
  refine HC.out.mono ?_
  rintro e w1 (⟨h1, rfl, h2⟩ | ⟨h1, h0, h5, rfl, h2⟩ | ⟨n, rfl, h1, h5, lv, rfl, h3, h4⟩)
  · have H2 := hideIt h2
    clear h2 HC
    unfold badV
    go_wp2
    go_ret2
    exact .inl ⟨h1, rfl, H2.out⟩
  · have H2 := hideIt h2
    clear h2 HC
    unfold badV
    go_wp2
    go_ret2
    exact .inr (.inl ⟨h1, rfl, h5, rfl, H2.out⟩)
  · have H3 := hideIt h3
    have H4 := hideIt h4
    have H5 := hideIt h5
    clear h3 h4 h5 HC
    go_wp2
    go_ret2
    exact .inr (.inr ⟨n, rfl, h1, fun _ => H5.out trivial, lv, rfl, H3.out, H4.out⟩)
end Go.Proofs.YtncnojgemmcplaaGreatDoor.St

namespace Go.Proofs.YtncnojgemmcplaaGreatDoor.St

/-- What is as at first, or was written. -/
def HdG (h : Hd) : Prop := h = hd0 ∨ 1 ≤ h.s.t
def evp (x : Sn) : Evp := ⟨x.proc, x.typ, x.key, if x.write then 2 else 1, x.a, 0, x.res⟩
/-- A mail of the program against the document's. -/
structure MlSim (n : Nat) (m : Mq) (x : Ml) : Prop where
  fr : x.fr = m.fr
  tt : x.to = m.tt
  key : x.l.key = m.key
  rd : x.l.rd = m.rd
  ask : m.tt < n → x.l.tells = m.tells ∧ (m.tells = true → x.l.h = mqH m)
  ans : (n : Int) ≤ m.tt → x.l.h = mqH m
  g : HdG (mqH m)
def MlsSim (n : Nat) (L : List Mq) (M : List Ml) : Prop := L.length = M.length ∧ ∀ (i : Nat) (m : Mq) (x : Ml), L[i]? = some m → M[i]? = some x → MlSim n m x
/-- A client that is at something. -/
structure ClOn (c : Nat) (p : Pcl) (x : Cl) : Prop where
  call : p.call = callP c x.key x.write x.value
  val : x.write = false → x.value = 0
  tells : x.tells = decide (p.at_ = 2)
  cnt : x.cnt = p.cnt
  g : HdG p.kept
  kept : p.at_ = 2 ∨ p.cnt ≠ [] → x.kept = p.kept
  first : p.at_ = 1 → p.cnt = [] → p.kept = hd0 ∧ x.kept = hdN
  key : 0 ≤ x.key ∧ x.key < 8
structure ClSim (c ask tell : Nat) (p : Pcl) (x : Cl) : Prop where
  busy : x.busy = p.busy
  gone : x.gone = true ↔ p.at_ = 3
  at3 : p.at_ = 0 ∨ p.at_ = 1 ∨ p.at_ = 2 ∨ p.at_ = 3
  rd : x.rd = p.rd
  on : p.busy = true → ClOn c p x ∧ p.cnt.length < (if p.at_ = 2 then tell else ask)
structure MqIn (n k : Nat) (m : Mq) : Prop where
  fr : 0 ≤ m.fr ∧ m.fr < (n : Int) + k
  tt : 0 ≤ m.tt ∧ m.tt < (n : Int) + k
  key : 0 ≤ m.key ∧ m.key < 8
  asks : m.tt < n → (n : Int) ≤ m.fr
/-- The program's store against the document's. -/
structure Sim (P : Pst) (S : Sto) : Prop where
  n : S.n = P.n
  k : S.k = P.k
  ask : S.ask = P.ask
  tell : S.tell = P.tell
  back : S.back = P.back
  n1 : 1 ≤ P.n
  a1 : 1 ≤ P.ask
  t1 : 1 ≤ P.tell
  lk : ∀ a b : Int, 0 ≤ a → a < (P.n : Int) + P.k → 0 ≤ b → b < (P.n : Int) + P.k → S.links a b = letL P.nil (tabL (P.n + P.k) P.lr) a b
  ml : MlsSim P.n P.mails S.mails
  mq : ∀ m, m ∈ P.mails → MqIn P.n P.k m
  hs : ∀ i q : Nat, i < P.n → q < 8 → S.has i q = P.has i q ∧ HdG (P.has i q)
  cl : ∀ i : Nat, i < P.k → ClSim i P.ask P.tell (P.cl i) (S.cl i)
  ev : P.evs = S.seen.map evp ∧ P.sts = S.seen.map Sn.at_

section
variable {P : Pst} {S : Sto}
theorem Pcl.busy_iff (p : Pcl) : p.busy = true ↔ p.at_ = 1 ∨ p.at_ = 2 := by unfold Pcl.busy; simp
theorem HdG.t0 {h : Hd} (g : HdG h) : 0 ≤ h.s.t := by
  rcases g with rfl | g
  · exact Int.le_refl _
  · omega
theorem Sim.turn (h : Sim P S) {c : Nat} {p : Pcl} {x : Cl} (hx : ClSim c P.ask P.tell p x) : Sim { P with cl := updP P.cl c p } { S with cl := updC S.cl c x } := by
  refine ⟨h.n, h.k, h.ask, h.tell, h.back, h.n1, h.a1, h.t1, h.lk, h.ml, h.mq, h.hs, fun i hi => ?_, h.ev⟩
  show ClSim i P.ask P.tell (updP P.cl c p i) (updC S.cl c x i)
  by_cases e : i = c
  · subst e; rw [updP_same, updC_same]; exact hx
  · rw [updP_ne _ _ e, updC_ne _ _ (by omega)]; exact h.cl i hi
theorem Sim.see (h : Sim P S) (e : Sn) : Sim { P with evs := P.evs ++ [evp e], sts := P.sts ++ [e.at_] } { S with seen := S.seen ++ [e] } :=
  ⟨h.n, h.k, h.ask, h.tell, h.back, h.n1, h.a1, h.t1, h.lk, h.ml, h.mq, h.hs, h.cl, by
    constructor
    · show P.evs ++ [evp e] = (S.seen ++ [e]).map evp
      rw [h.ev.1]; simp
    · show P.sts ++ [e.at_] = (S.seen ++ [e]).map Sn.at_
      rw [h.ev.2]; simp⟩
theorem Sim.mails (h : Sim P S) {L : List Mq} {M : List Ml} (h' : MlsSim P.n L M) (hb : ∀ m, m ∈ L → MqIn P.n P.k m) : Sim { P with mails := L } { S with mails := M } :=
  ⟨h.n, h.k, h.ask, h.tell, h.back, h.n1, h.a1, h.t1, h.lk, h', hb, h.hs, h.cl, h.ev⟩
/-- What is sent. -/
def sendQ (l : List Mq) (m : Mq) : List Mq := if l.length < 500 then l ++ [m] else l
theorem sendP_eq (P : Pst) (m : Mq) : sendP P m = { P with mails := sendQ P.mails m } := by
  unfold sendP sendQ
  split <;> rfl
theorem MlsSim.send {n : Nat} {L : List Mq} {M : List Ml} (h : MlsSim n L M) {m : Mq} {x : Ml} (hm : MlSim n m x) : MlsSim n (sendQ L m) (sendL M x) := by
  unfold sendQ sendL
  rw [h.1]
  split
  · refine ⟨by simp [h.1], fun i a b ha hb => ?_⟩
    rcases Nat.lt_or_ge i L.length with hi | hi
    · rw [List.getElem?_append_left hi] at ha
      rw [List.getElem?_append_left (by rw [← h.1]; exact hi)] at hb
      exact h.2 i a b ha hb
    · rw [List.getElem?_append_right hi] at ha
      rw [List.getElem?_append_right (by rw [← h.1]; exact hi), ← h.1] at hb
      have h0 : i - L.length = 0 := by
        have := (List.getElem?_eq_some_iff.1 ha).1
        simpa using this
      rw [h0] at ha hb
      simp at ha hb
      rw [← ha, ← hb]
      exact hm
  · exact h
theorem mem_sendQ {l : List Mq} {m a : Mq} (h : a ∈ sendQ l m) : a ∈ l ∨ a = m := by
  unfold sendQ at h
  split at h
  · rcases List.mem_append.1 h with h | h
    · exact .inl h
    · exact .inr (List.mem_singleton.1 h)
  · exact .inl h
theorem Sim.send (h : Sim P S) {m : Mq} {x : Ml} (hm : MlSim P.n m x) (hi : MqIn P.n P.k m) : Sim (sendP P m) { S with mails := sendL S.mails x } := by
  rw [sendP_eq]
  exact h.mails (h.ml.send hm) fun a ha => (mem_sendQ ha).elim (h.mq a) fun e => by rw [e]; exact hi
theorem Sim.sends {c : Nat} {p : Pcl} {x : Cl} (hck : c < P.k) (hk : p.call.k = x.key ∧ p.rd = x.rd ∧ x.tells = decide (p.at_ = 2)) (hg : HdG p.kept) (ht : x.tells = true → x.kept = p.kept) (hkey : 0 ≤ x.key ∧ x.key < 8) (h : Sim P S) :
    ∀ m, m ≤ P.n → Sim (sendsP P c p m) { S with mails := (List.range m).foldl (fun l (j : Nat) => sendL l ⟨S.n + c, j, ⟨c, x.key, x.rd, x.tells, x.kept⟩⟩) S.mails } ∧ (sendsP P c p m).n = P.n ∧ (sendsP P c p m).k = P.k := by
  intro m
  induction m with
  | zero => exact fun _ => ⟨h, rfl, rfl⟩
  | succ m ih =>
    intro hm
    obtain ⟨h1, h2, h3⟩ := ih (by omega)
    have e : sendsP P c p (m + 1) = sendP (sendsP P c p m) (msgP (sendsP P c p m).n c p m) := by
      unfold sendsP
      rw [List.range_succ, List.foldl_append]
      rfl
    have e2 : (sendP (sendsP P c p m) (msgP (sendsP P c p m).n c p m)).n = (sendsP P c p m).n ∧ (sendP (sendsP P c p m) (msgP (sendsP P c p m).n c p m)).k = (sendsP P c p m).k := by
      rw [sendP_eq]; exact ⟨rfl, rfl⟩
    rw [e, List.range_succ, List.foldl_append]
    refine ⟨h1.send ⟨?_, rfl, hk.1.symm, hk.2.1.symm, fun _ => ⟨hk.2.2, fun ht' => ht (hk.2.2.trans ht')⟩, fun hn => ?_, hg⟩ ⟨⟨?_, ?_⟩, ⟨?_, ?_⟩, ?_, fun _ => ?_⟩, e2.1.trans h2, e2.2.trans h3⟩
    · show (S.n : Int) + c = ((sendsP P c p m).n : Int) + c
      rw [h2, h.n]
    · have hn' : (((sendsP P c p m).n : Nat) : Int) ≤ (m : Int) := hn
      rw [h2] at hn'
      omega
    · show (0 : Int) ≤ ((sendsP P c p m).n : Int) + c
      omega
    · show ((sendsP P c p m).n : Int) + c < ((sendsP P c p m).n : Int) + ((sendsP P c p m).k : Int)
      rw [h3]; omega
    · show (0 : Int) ≤ m
      omega
    · show (m : Int) < ((sendsP P c p m).n : Int) + ((sendsP P c p m).k : Int)
      rw [h2]; omega
    · show 0 ≤ p.call.k ∧ p.call.k < 8
      rw [hk.1]; exact hkey
    · show ((sendsP P c p m).n : Int) ≤ ((sendsP P c p m).n : Int) + c
      omega
/-- A client asks or tells anew. -/
theorem Sim.round (h : Sim P S) {c : Nat} (hck : c < P.k) {p : Pcl} {x : Cl} (hx : ClSim c P.ask P.tell p x) (hb : p.busy = true) : Sim (sendsP { P with cl := updP P.cl c p } c p P.n) { S with cl := updC S.cl c x, mails := sendAll S.mails S.n c x } := by
  obtain ⟨ho, hl⟩ := hx.on hb
  have hr := (Sim.sends (P := { P with cl := updP P.cl c p }) (S := { S with cl := updC S.cl c x }) (c := c) (p := p) (x := x) hck ⟨by rw [ho.call]; rfl, hx.rd.symm, ho.tells⟩ ho.g (fun ht => ho.kept (.inl (of_decide_eq_true (ho.tells.symm.trans ht)))) ho.key (h.turn hx) P.n (Nat.le_refl _)).1
  have e : (⟨S.n, S.k, S.ask, S.tell, S.back, S.links, (List.range P.n).foldl (fun l (j : Nat) => sendL l ⟨S.n + c, j, ⟨c, x.key, x.rd, x.tells, x.kept⟩⟩) S.mails, S.has, updC S.cl c x, S.seen⟩ : Sto) = { S with cl := updC S.cl c x, mails := sendAll S.mails S.n c x } := by
    unfold sendAll
    rw [h.n]
  rw [← e]
  exact hr
/-- Free tells the same. -/
theorem Sim.busyN (h : Sim P S) : busyP P = busyN S := by
  unfold busyP _root_.Go.Proofs.YtncnojgemmcplaaGreatDoor.busyN
  rw [h.k]
  refine List.countP_congr fun j hj => ?_
  rw [(h.cl j (List.mem_range.1 hj)).busy]
theorem Sim.free (h : Sim P S) (c : Int) : freeP P c = freeE S c := by
  unfold freeP freeE
  rw [h.k]
  split
  · rfl
  · have hc : (c.toNat : Int) = c := by omega
    have hx := h.cl c.toNat (by omega)
    rw [hc] at hx
    have e1 : ((P.cl c.toNat).at_ ≠ 0) ↔ ((S.cl c).busy = true ∨ (S.cl c).gone = true) := by
      rw [hx.busy, hx.gone, Pcl.busy_iff]
      have := hx.at3
      omega
    have e2 : P.evs.length = S.seen.length := by rw [h.ev.1]; simp
    rw [h.busyN, e2]
    simp only [e1]
theorem Sim.begE (h : Sim P S) (c key : Int) (wr : Bool) (v : Int) : begC P c key wr v = beginE S c key wr v := by
  unfold begC beginE
  rw [h.free]
  have : begB key wr v = true ↔ (key < 0 ∨ 7 < key ∨ numB v = false ∨ (v ≠ 0 ∧ wr = false)) := by
    unfold begB numB
    cases wr <;> simp <;> omega
  simp only [this]
theorem Sim.beg (h : Sim P S) {c key v : Int} {wr : Bool} (he : beginE S c key wr v = 0) : Sim (begP P c key wr v) (beginS S c key wr v) := by
  have hb := h.begE c key wr v
  rw [he] at hb
  unfold begC at hb
  unfold begP
  split at hb
  · cases hb
  · next hg =>
    rw [if_neg hg, if_pos hb]
    obtain ⟨hc0, hck⟩ := freeP_zero hb
    obtain ⟨c, rfl⟩ : ∃ n : Nat, c = n := ⟨c.toNat, by omega⟩
    rw [Int.toNat_natCast]
    have hck : c < P.k := by omega
    have hx := h.cl c hck
    have h0 : (P.cl c).at_ = 0 := by
      unfold freeP at hb
      split at hb
      · cases hb
      · split at hb
        · cases hb
        · next hn => rw [Int.toNat_natCast] at hn; exact Classical.byContradiction hn
    have hg' : (0 ≤ key ∧ key < 8) ∧ (wr = false → v = 0) := by
      unfold begB at hg
      refine ⟨?_, fun hw => ?_⟩
      · cases wr <;> simp at hg <;> omega
      · subst hw
        simp at hg
        omega
    have hnb : (P.cl c).busy = false := by
      cases e : (P.cl c).busy with
      | false => rfl
      | true => have := (Pcl.busy_iff _).1 e; omega
    have hgone : (S.cl c).gone = false := by
      cases e : (S.cl c).gone with
      | false => rfl
      | true => have := hx.gone.1 e; omega
    have hs := h.see (snOf c (beginC (S.cl c) key wr v) 1 0 zeroS)
    have ee : evp (snOf c (beginC (S.cl c) key wr v) 1 0 zeroS) = callP c key wr v := by
      have := hg'.2
      unfold evp snOf beginC callP
      cases wr
      · simp [this]
      · rfl
    rw [ee] at hs
    have e : beginP P c key wr v = sendsP { ({ P with evs := P.evs ++ [callP c key wr v], sts := P.sts ++ [zeroS] } : Pst) with cl := updP P.cl c (roundX { P.cl c with call := callP c key wr v, kept := hd0 } 1) } c (roundX { P.cl c with call := callP c key wr v, kept := hd0 } 1) P.n := by
      unfold beginP roundP
      simp only [updP_same, updP_updP]
    rw [e]
    refine hs.round hck (x := roundC (beginC (S.cl c) key wr v)) ⟨rfl, ?_, .inr (.inl rfl), ?_, fun _ => ⟨⟨rfl, hg'.2, rfl, rfl, .inl rfl, fun hx => ?_, fun _ _ => ⟨rfl, rfl⟩, hg'.1⟩, h.a1⟩⟩ rfl
    · show (S.cl c).gone = true ↔ (1 : Int) = 3
      rw [hgone]; simp
    · show (S.cl c).rd + 1 = (P.cl c).rd + 1
      rw [hx.rd]
    · rcases hx with hx | hx
      · exact absurd (show (1 : Int) = 2 from hx) (by decide)
      · exact absurd rfl hx
theorem Sim.giveE (h : Sim P S) (c : Int) : giveC P c = giveE S c := by
  unfold giveC _root_.Go.Proofs.YtncnojgemmcplaaGreatDoor.giveE
  rw [h.k]
  by_cases hc : c < 0 ∨ (P.k : Int) ≤ c
  · rw [if_pos hc, if_neg (by omega)]
  · rw [if_neg hc, if_pos (by omega)]
    have hx := h.cl c.toNat (by omega)
    have hc : (c.toNat : Int) = c := by omega
    rw [hc] at hx
    rw [hx.busy]
    cases (P.cl c.toNat).busy <;> rfl
theorem Sim.give (h : Sim P S) {c : Int} (he : Go.Proofs.YtncnojgemmcplaaGreatDoor.giveE S c = 0) : Sim (givePP P c) (giveS S c) := by
  have hb := h.giveE c
  rw [he] at hb
  unfold giveC at hb
  unfold givePP
  split at hb
  · next hc =>
    split at hb
    · next hbz =>
      rw [if_pos hc, if_pos hbz]
      obtain ⟨c, rfl⟩ : ∃ n : Nat, c = n := ⟨c.toNat, by omega⟩
      rw [Int.toNat_natCast] at *
      have hx := h.cl c (by omega)
      obtain ⟨ho, _⟩ := hx.on hbz
      have hs := (h.see (snOf c (S.cl c) 4 0 zeroS)).turn (c := c) (p := { P.cl c with at_ := 3 }) (x := { S.cl c with busy := false, gone := true }) ⟨rfl, ⟨fun _ => rfl, fun _ => rfl⟩, .inr (.inr (.inr rfl)), hx.rd, fun hb => absurd (show false = true from hb) (by decide)⟩
      have ee : evp (snOf c (S.cl c) 4 0 zeroS) = { (P.cl c).call with t := 4 } := by
        rw [ho.call]
        have := ho.val
        unfold evp snOf callP
        cases e : (S.cl c).write
        · simp [this e]
        · simp
      rw [ee] at hs
      exact hs
    · cases hb
  · cases hb
end
end Go.Proofs.YtncnojgemmcplaaGreatDoor.St
