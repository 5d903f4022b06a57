/-
  Chapter 17: the program's own way against the document's: what is delivered; all moves (plain).
  Chapter 17: what is seen of the program's store (plain).
-/
import Derived.Test.YtncnojgemmcplaaGreatDoorLiWZ
namespace Go.Proofs.YtncnojgemmcplaaGreatDoor.St

section
variable {P : Pst} {S : Sto}
theorem newerH_g {a b : Hd} (ha : HdG a) (hb : HdG b) : HdG (newerH a b) := by
  unfold newerH
  split
  · exact hb
  · exact ha
theorem newerH_first {h : Hd} (g : HdG h) : newerH hd0 h = h := by
  unfold newerH
  rcases g with rfl | g
  · split <;> rfl
  · rw [if_pos (.inl (show (0 : Int) < h.s.t by omega))]
/-- A node hears. -/
theorem Sim.node (h : Sim P S) {m : Mq} {x : Ml} (hm : MlSim P.n m x) (hi : MqIn P.n P.k m) (ht : m.tt < P.n) : Sim (answerP P m) (nodeS S x) := by
  obtain ⟨i, hi1⟩ : ∃ i : Nat, m.tt = i := ⟨m.tt.toNat, by have := hi.tt; omega⟩
  obtain ⟨q, hq1⟩ : ∃ q : Nat, m.key = q := ⟨m.key.toNat, by have := hi.key; omega⟩
  have hin : i < P.n := by omega
  have hq8 : q < 8 := by have := hi.key; omega
  obtain ⟨hh, hg⟩ := h.hs i q hin hq8
  have e1 : x.to = (i : Int) := hm.tt.trans hi1
  have e2 : x.l.key = (q : Int) := hm.key.trans hq1
  have hy : nodeH (S.has x.to x.l.key) x.l = answerH (P.has m.tt.toNat m.key.toNat) m := by
    rw [e1, e2, hi1, hq1, Int.toNat_natCast, Int.toNat_natCast, hh]
    obtain ⟨a1, a2⟩ := hm.ask ht
    unfold nodeH answerH newerH
    rw [a1]
    cases hc : m.tells
    · simp
    · simp [a2 hc]
  have hyg : HdG (answerH (P.has m.tt.toNat m.key.toNat) m) := by
    rw [hi1, hq1, Int.toNat_natCast, Int.toNat_natCast]
    unfold answerH
    split
    · exact newerH_g hg hm.g
    · exact hg
  unfold answerP nodeS
  rw [hy]
  generalize answerH (P.has m.tt.toNat m.key.toNat) m = y at *
  refine Sim.send (P := { P with has := upd2 P.has m.tt.toNat m.key.toNat y }) (S := { S with has := updH S.has x.to x.l.key y }) ⟨h.n, h.k, h.ask, h.tell, h.back, h.n1, h.a1, h.t1, h.lk, h.ml, h.mq, fun j s hj hs => ?_, h.cl, h.ev⟩ ⟨hm.tt, hm.fr, hm.key, hm.rd, fun hn => ?_, fun _ => rfl, hyg⟩ ⟨hi.tt, hi.fr, hi.key, fun hn => ?_⟩
  · show updH S.has x.to x.l.key y j s = upd2 P.has m.tt.toNat m.key.toNat y j s ∧ HdG (upd2 P.has m.tt.toNat m.key.toNat y j s)
    unfold updH upd2
    rw [e1, e2, hi1, hq1, Int.toNat_natCast, Int.toNat_natCast]
    by_cases e : j = i ∧ s = q
    · rw [if_pos e, if_pos (by omega)]
      exact ⟨rfl, hyg⟩
    · rw [if_neg e, if_neg (by omega)]
      exact h.hs j s hj hs
  · have := hi.asks ht
    have hn' : m.fr < (P.n : Int) := hn
    omega
  · have := hi.asks ht
    have hn' : m.fr < (P.n : Int) := hn
    omega
/-- What is counted. -/
theorem ClOn.count {c : Nat} {p : Pcl} {x : Cl} (h : ClOn c p x) {m : Mq} {l : Hd} (hl : l = mqH m) (hg : HdG (mqH m)) (hb : p.at_ = 1 ∨ p.at_ = 2) : ClOn c (countX p m) (countC x m.fr l) := by
  subst hl
  have hk : (countC x m.fr (mqH m)).kept = (countX p m).kept := by
    show (if x.tells = false ∧ x.kept.s.lt (mqH m).s then mqH m else x.kept) = if p.at_ = 1 then newerH p.kept (mqH m) else p.kept
    rw [h.tells]
    rcases hb with hb | hb
    · rw [if_pos hb, hb]
      by_cases hc : p.cnt = []
      · obtain ⟨f1, f2⟩ := h.first hb hc
        rw [f1, f2, newerH_first hg, if_pos]
        refine ⟨rfl, .inl ?_⟩
        have := hg.t0
        show (-1 : Int) < (mqH m).s.t
        omega
      · rw [h.kept (.inr hc)]
        unfold newerH
        simp
    · rw [if_neg (show ¬ p.at_ = 1 by omega), hb, if_neg (by simp)]
      exact h.kept (.inl hb)
  refine ⟨h.call, h.val, h.tells, ?_, ?_, fun _ => hk, fun _ hc => absurd hc (by simp [countX]), h.key⟩
  · show x.cnt ++ [m.fr] = p.cnt ++ [m.fr]
    rw [h.cnt]
  · show HdG (if p.at_ = 1 then newerH p.kept (mqH m) else p.kept)
    split
    · exact newerH_g h.g hg
    · exact h.g
theorem Sim.done (h : Sim P S) {c : Nat} {p : Pcl} {x : Cl} (ho : ClOn c p x) (hk : x.kept = p.kept) (hr : x.rd = p.rd) (hgn : x.gone = false) : Sim (doneP { P with cl := updP P.cl c p } c) (doneS S c x) := by
  have hs := (h.see (snOf c x 2 (if x.write then 0 else x.kept.v) x.kept.s)).turn (c := c) (p := { p with at_ := 0 }) (x := { x with busy := false }) ⟨rfl, ⟨fun e => absurd (hgn.symm.trans e) (by decide), fun e => absurd (show (0 : Int) = 3 from e) (by decide)⟩, .inl rfl, hr, fun hb => absurd (show false = true from hb) (by decide)⟩
  have ee : evp (snOf c x 2 (if x.write then 0 else x.kept.v) x.kept.s) = endP p := by
    unfold endP
    rw [ho.call, hk]
    have := ho.val
    unfold evp snOf callP
    cases e : x.write
    · simp [this e]
    · simp
  rw [ee] at hs
  unfold doneP doneS
  simp only [updP_same, updP_updP]
  have e3 : (snOf c x 2 (if x.write then 0 else x.kept.v) x.kept.s).at_ = p.kept.s := by show x.kept.s = _; rw [hk]
  rw [e3] at hs
  exact hs
/-- A client hears. -/
theorem Sim.hear (h : Sim P S) {m : Mq} {x : Ml} (hm : MlSim P.n m x) (hi : MqIn P.n P.k m) (ht : (P.n : Int) ≤ m.tt) : Sim (countP_ P m) (hearS S (x.to - S.n) x.fr x.l) := by
  obtain ⟨c, hc⟩ : ∃ c : Nat, m.tt - P.n = c := ⟨(m.tt - P.n).toNat, by omega⟩
  have hck : c < P.k := by have := hi.tt; omega
  have e1 : x.to - (S.n : Int) = c := by rw [hm.tt, h.n]; exact hc
  have hx := h.cl c hck
  have hl := hm.ans ht
  unfold countP_ hearS
  rw [e1, hc, Int.toNat_natCast, hm.fr, hm.rd]
  dsimp only
  rw [hx.busy, hx.rd]
  by_cases hb : (P.cl c).busy = true
  · obtain ⟨ho, hlen⟩ := hx.on hb
    rw [ho.cnt]
    by_cases hcond : (P.cl c).busy = true ∧ m.rd = (P.cl c).rd ∧ m.fr ∉ (P.cl c).cnt
    · rw [if_pos hcond, if_pos hcond, ho.tells]
      have hb' := (Pcl.busy_iff _).1 hb
      have hC := ho.count (m := m) hl hm.g hb'
      have hyl : (countC (S.cl c) m.fr x.l.h).cnt.length = (P.cl c).cnt.length + 1 := by
        show ((S.cl c).cnt ++ [m.fr]).length = _
        rw [ho.cnt]; simp
      have hyk : (countC (S.cl c) m.fr x.l.h).kept = (countX (P.cl c) m).kept := hC.kept (.inr (by simp [countX]))
      have hyb : (countC (S.cl c) m.fr x.l.h).busy = (countX (P.cl c) m).busy := hx.busy
      have hgn : (countC (S.cl c) m.fr x.l.h).gone = false := by
        show (S.cl c).gone = false
        cases e : (S.cl c).gone with
        | false => rfl
        | true => have := hx.gone.1 e; omega
      have stay : (P.cl c).cnt.length + 1 < (if (P.cl c).at_ = 2 then P.tell else P.ask) → Sim { P with cl := updP P.cl c (countX (P.cl c) m) } { S with cl := updC S.cl c (countC (S.cl c) m.fr x.l.h) } := fun hlt =>
        h.turn ⟨hyb, hx.gone, hx.at3, hx.rd, fun _ => ⟨hC, by show ((P.cl c).cnt ++ [m.fr]).length < (if (P.cl c).at_ = 2 then P.tell else P.ask); simpa using hlt⟩⟩
      have dn : Sim (doneP { P with cl := updP P.cl c (countX (P.cl c) m) } c) (doneS S c (countC (S.cl c) m.fr x.l.h)) := h.done hC hyk hx.rd hgn
      rw [hyl]
      rcases hb' with hb1 | hb2
      · rw [if_pos hb1, hb1]
        rw [if_neg (by omega)] at hlen
        by_cases hq : (P.cl c).cnt.length + 1 = P.ask
        · rw [if_pos hq, if_neg (by rw [if_neg (by decide), h.ask]; omega)]
          unfold askedP
          simp only [updP_same]
          have hd : ((countX (P.cl c) m).call.d = 2 ∨ P.back = true) ↔ (decide ((1 : Int) = 2) = false ∧ ((S.cl c).write = true ∨ S.back = true)) := by
            rw [h.back]
            show ((P.cl c).call.d = 2 ∨ P.back = true) ↔ _
            rw [ho.call]
            unfold callP
            cases (S.cl c).write <;> simp
          by_cases hw : (countX (P.cl c) m).call.d = 2 ∨ P.back = true
          · rw [if_pos hw, if_pos (hd.1 hw)]
            unfold roundP roundS
            simp only [updP_same, updP_updP]
            have hk2 : (tellC c (countC (S.cl c) m.fr x.l.h)).kept = (askedX c (countX (P.cl c) m)).kept ∧ HdG (askedX c (countX (P.cl c) m)).kept ∧ (askedX c (countX (P.cl c) m)).call = (countX (P.cl c) m).call ∧ (askedX c (countX (P.cl c) m)).rd = (countX (P.cl c) m).rd := by
              unfold tellC askedX
              have hcall : (countX (P.cl c) m).call = callP c (S.cl c).key (S.cl c).write (S.cl c).value := ho.call
              rw [hcall]
              show (if (S.cl c).write = true then (⟨⟨(countC (S.cl c) m.fr x.l.h).kept.s.t + 1, (c : Int)⟩, (S.cl c).value⟩ : Hd) else (countC (S.cl c) m.fr x.l.h).kept) = _ ∧ _
              rw [hyk]
              have := hC.g.t0
              cases hw' : (S.cl c).write
              · exact ⟨rfl, hC.g, hcall.trans (by rw [hw']), rfl⟩
              · exact ⟨rfl, .inr (show 1 ≤ (countX (P.cl c) m).kept.s.t + 1 by omega), rfl, rfl⟩
            exact h.round hck (p := roundX (askedX c (countX (P.cl c) m)) 2) (x := roundC (tellC c (countC (S.cl c) m.fr x.l.h))) ⟨hx.busy.trans hb, ⟨fun e => absurd (hgn.symm.trans e) (by decide), fun e => absurd (show (2 : Int) = 3 from e) (by decide)⟩, .inr (.inr (.inl rfl)), by show (S.cl c).rd + 1 = (askedX c (countX (P.cl c) m)).rd + 1; rw [hk2.2.2.2, hx.rd]; rfl, fun _ => ⟨⟨by show (askedX c (countX (P.cl c) m)).call = _; rw [hk2.2.2.1]; exact ho.call, ho.val, rfl, rfl, hk2.2.1, fun _ => hk2.1, fun e => absurd (show (2 : Int) = 1 from e) (by decide), ho.key⟩, h.t1⟩⟩ rfl
          · rw [if_neg hw, if_neg (fun e => hw (hd.2 e))]
            exact dn
        · rw [if_neg hq, if_pos (by rw [if_neg (by decide), h.ask]; omega)]
          exact stay (by rw [if_neg (by omega)]; omega)
      · rw [if_neg (by omega), hb2]
        rw [if_pos hb2] at hlen
        by_cases hq : (P.cl c).cnt.length + 1 = P.tell
        · rw [if_pos hq, if_neg (by rw [if_pos (by decide), h.tell]; omega), if_neg (by simp)]
          exact dn
        · rw [if_neg hq, if_pos (by rw [if_pos (by decide), h.tell]; omega)]
          exact stay (by rw [if_pos hb2]; omega)
    · rw [if_neg hcond, if_neg hcond]
      exact h
  · rw [if_neg (fun e => hb e.1), if_neg (fun e => hb e.1)]
    exact h
theorem MlsSim.erase {n : Nat} {L : List Mq} {M : List Ml} (h : MlsSim n L M) (i : Nat) : MlsSim n (L.eraseIdx i) (M.eraseIdx i) := by
  refine ⟨by rw [List.length_eraseIdx, List.length_eraseIdx, h.1], fun j a b ha hb => ?_⟩
  rw [List.getElem?_eraseIdx] at ha hb
  split at ha
  · next hj => rw [if_pos hj] at hb; exact h.2 j a b ha hb
  · next hj => rw [if_neg hj] at hb; exact h.2 (j + 1) a b ha hb
theorem Sim.erase (h : Sim P S) (i : Nat) : Sim { P with mails := P.mails.eraseIdx i } { S with mails := S.mails.eraseIdx i } := h.mails (h.ml.erase i) fun m hm => h.mq m (List.mem_of_mem_eraseIdx hm)
theorem Sim.pair (h : Sim P S) (i : Nat) : (P.mails[i]? = none ∧ S.mails[i]? = none) ∨ ∃ m x, P.mails[i]? = some m ∧ S.mails[i]? = some x ∧ MlSim P.n m x ∧ MqIn P.n P.k m ∧ i < P.mails.length := by
  rcases Nat.lt_or_ge i P.mails.length with hi | hi
  · have hi' : i < S.mails.length := by rw [← h.ml.1]; exact hi
    have e1 := List.getElem?_eq_getElem hi
    have e2 := List.getElem?_eq_getElem hi'
    exact .inr ⟨_, _, e1, e2, h.ml.2 i _ _ e1 e2, h.mq _ (List.mem_of_getElem? e1), hi⟩
  · exact .inl ⟨List.getElem?_eq_none hi, List.getElem?_eq_none (by rw [← h.ml.1]; exact hi)⟩
theorem Sim.goes (h : Sim P S) {m : Mq} {x : Ml} (hm : MlSim P.n m x) (hi : MqIn P.n P.k m) : S.links x.fr x.to = goes P m := by
  rw [hm.fr, hm.tt]
  exact h.lk _ _ hi.fr.1 hi.fr.2 hi.tt.1 hi.tt.2
theorem Sim.takeE (h : Sim P S) (i : Int) : deliC P i = takeE S i := by
  unfold deliC _root_.Go.Proofs.YtncnojgemmcplaaGreatDoor.takeE
  rw [← h.ml.1]
  rcases h.pair i.toNat with ⟨e1, e2⟩ | ⟨m, x, e1, e2, h1, h2, h3⟩
  · rw [e1, e2]
    show (8 : Int) = if i < 0 ∨ (P.mails.length : Int) ≤ i then 8 else 8
    split <;> rfl
  · rw [e1, e2]
    show (if 0 ≤ i then if Go.Proofs.YtncnojgemmcplaaGreatDoor.St.goes P m = true then (0 : Int) else 6 else 8) = if i < 0 ∨ (P.mails.length : Int) ≤ i then 8 else if S.links x.fr x.to = true then 0 else 6
    rw [h.goes h1 h2]
    by_cases hi : 0 ≤ i
    · rw [if_pos hi, if_neg (show ¬ (i < 0 ∨ (P.mails.length : Int) ≤ i) by omega)]
    · rw [if_neg hi, if_pos (show i < 0 ∨ (P.mails.length : Int) ≤ i by omega)]
theorem Sim.deli (h : Sim P S) {i : Int} (he : Go.Proofs.YtncnojgemmcplaaGreatDoor.takeE S i = 0) : Sim (deliP P i) (delivS S i) := by
  have hb := h.takeE i
  rw [he] at hb
  unfold deliC at hb
  unfold deliP delivS
  rcases h.pair i.toNat with ⟨e1, e2⟩ | ⟨m, x, e1, e2, h1, h2, h3⟩
  · rw [e1, e2]; exact h
  · rw [e1] at hb
    rw [e1, e2]
    have hb' : (if 0 ≤ i then if Go.Proofs.YtncnojgemmcplaaGreatDoor.St.goes P m = true then (0 : Int) else 6 else 8) = 0 := hb
    show Sim (if 0 ≤ i then if Go.Proofs.YtncnojgemmcplaaGreatDoor.St.goes P m = true then gotP { P with mails := P.mails.eraseIdx i.toNat } m else P else P) (takeS { S with mails := S.mails.eraseIdx i.toNat } x)
    split at hb'
    · next hi =>
      split at hb'
      · next hg =>
        rw [if_pos hi, if_pos hg]
        have h4 := h.erase i.toNat
        unfold gotP takeS
        by_cases ht : m.tt < (P.n : Int)
        · rw [if_pos (show m.tt < _ from ht), if_pos (show x.to < (S.n : Int) by rw [h1.tt, h.n]; exact ht)]
          exact h4.node h1 h2 ht
        · rw [if_neg (show ¬ m.tt < _ from ht), if_neg (show ¬ x.to < (S.n : Int) by rw [h1.tt, h.n]; exact ht)]
          exact h4.hear h1 h2 (by show (P.n : Int) ≤ m.tt; omega)
      · cases hb'
    · cases hb'
theorem Sim.dropE (h : Sim P S) (i : Int) : dropC P i = dropE S i := by
  unfold dropC _root_.Go.Proofs.YtncnojgemmcplaaGreatDoor.dropE
  rw [← h.ml.1]
  split
  · rw [if_neg (by omega)]
  · rw [if_pos (by omega)]
theorem Sim.doubE (h : Sim P S) (i : Int) : doubC P i = doubE S i := by
  unfold doubC _root_.Go.Proofs.YtncnojgemmcplaaGreatDoor.doubE
  rw [← h.ml.1]
  by_cases hi : 0 ≤ i ∧ i < P.mails.length
  · rw [if_pos hi, if_neg (show ¬ (i < 0 ∨ (P.mails.length : Int) ≤ i) by omega)]
    by_cases hl : P.mails.length < 500
    · rw [if_pos hl, if_neg (show ¬ 500 ≤ P.mails.length by omega)]
    · rw [if_neg hl, if_pos (show 500 ≤ P.mails.length by omega)]
  · rw [if_neg hi, if_pos (show i < 0 ∨ (P.mails.length : Int) ≤ i by omega)]
theorem Sim.doub (h : Sim P S) {i : Int} (he : Go.Proofs.YtncnojgemmcplaaGreatDoor.doubE S i = 0) : Sim (doubP P i) (doubS S i) := by
  have hi : 0 ≤ i := by
    unfold _root_.Go.Proofs.YtncnojgemmcplaaGreatDoor.doubE at he
    split at he
    · cases he
    · omega
  unfold doubP doubS
  rcases h.pair i.toNat with ⟨e1, e2⟩ | ⟨m, x, e1, e2, h1, h2, h3⟩
  · rw [e1, e2]; exact h
  · rw [e1, e2]
    show Sim (if 0 ≤ i then sendP P m else P) _
    rw [if_pos hi]
    exact h.send h1 h2
/-- 17.4: Cut. -/
def cutC (P : Pst) (rule x who : Int) : Int := if x < 1 ∨ 7 < x then 4 else if rule = 4 ∧ (who < 0 ∨ x ≤ who) then 2 else if x ≠ P.n then 3 else 0
def wideP (P : Pst) (r : Nat → Nat → Bool) : Pst := { P with nil := false, lr := fun a b => r (a % P.n) (b % P.n) }
def cutP (P : Pst) (rule x who : Int) : Pst := if cutC P rule x who = 0 then wideP P (linkN rule P.n who) else P
def allP (P : Pst) : Pst := { P with nil := true }
theorem letL_in {N : Nat} {r : Nat → Nat → Bool} {a b : Int} (h1 : 0 ≤ a) (h2 : a < N) (h3 : 0 ≤ b) (h4 : b < N) : letL false (tabL N r) a b = r a.toNat b.toNat := by
  have ha : a.toNat < N := by omega
  have hb : b.toNat < N := by omega
  unfold letL tabL
  rw [if_neg (by decide), if_pos ⟨h1, h3⟩]
  simp [ha, hb]
theorem asNode_mod {n : Nat} {a : Int} (h : 0 ≤ a) : asNode n a = ((a.toNat % n : Nat) : Int) := by
  unfold asNode
  obtain ⟨k, rfl⟩ : ∃ k : Nat, a = k := ⟨a.toNat, by omega⟩
  rw [Int.toNat_natCast]
  split
  · next h' =>
    obtain ⟨d, rfl⟩ : ∃ d, k = n + d := ⟨k - n, by omega⟩
    rw [Nat.add_mod_left]
    have : ((n + d : Nat) : Int) - n = (d : Int) := by omega
    rw [this]
    rfl
  · rw [Nat.mod_eq_of_lt (by omega)]
theorem Sim.cut (h : Sim P S) (rule who : Int) : Sim (wideP P (linkN rule P.n who)) { S with links := cutL S.n S.k rule who } := by
  refine ⟨h.n, h.k, h.ask, h.tell, h.back, h.n1, h.a1, h.t1, fun a b ha ha' hb hb' => ?_, h.ml, h.mq, h.hs, h.cl, h.ev⟩
  have ha'' : a < (P.n : Int) + P.k := ha'
  have hb'' : b < (P.n : Int) + P.k := hb'
  show cutL S.n S.k rule who a b = letL false (tabL (P.n + P.k) fun a b => linkN rule P.n who (a % P.n) (b % P.n)) a b
  rw [letL_in ha (by omega) hb (by omega)]
  unfold cutL
  rw [h.n, h.k, decide_eq_true (p := 0 ≤ a ∧ a < (P.n : Int) + (P.k : Int)) ⟨ha, by omega⟩, decide_eq_true (p := 0 ≤ b ∧ b < (P.n : Int) + (P.k : Int)) ⟨hb, by omega⟩, asNode_mod ha, asNode_mod hb]
  rfl
theorem Sim.all (h : Sim P S) : Sim (allP P) { S with links := fun _ _ => true } :=
  ⟨h.n, h.k, h.ask, h.tell, h.back, h.n1, h.a1, h.t1, fun a b _ _ _ _ => by unfold letL allP; rw [if_pos rfl], h.ml, h.mq, h.hs, h.cl, h.ev⟩
/-- What a move tells, and what it makes, the program's own way. -/
def playC (P : Pst) (m : Mvs) : Int :=
  if m.what = 0 then begC P m.a m.b false m.c
  else if m.what = 1 then begC P m.a m.b true m.c
  else if m.what = 2 then deliC P m.a
  else if m.what = 3 then dropC P m.a
  else if m.what = 4 then doubC P m.a
  else if m.what = 5 then giveC P m.a
  else if m.what = 6 then 0
  else cutC P (ruleW m.what) m.a m.b
def playP (P : Pst) (m : Mvs) : Pst :=
  if m.what = 0 then begP P m.a m.b false m.c
  else if m.what = 1 then begP P m.a m.b true m.c
  else if m.what = 2 then deliP P m.a
  else if m.what = 3 then dropP P m.a
  else if m.what = 4 then doubP P m.a
  else if m.what = 5 then givePP P m.a
  else if m.what = 6 then allP P
  else cutP P (ruleW m.what) m.a m.b
theorem begP_no {c key v : Int} {wr : Bool} (h : begC P c key wr v ≠ 0) : begP P c key wr v = P := by
  unfold begC at h
  unfold begP
  split at h
  · next hb => rw [if_pos hb]
  · next hb => rw [if_neg hb, if_neg h]
theorem Sim.play (h : Sim P S) (m : Mvs) : playC P m = playE S m ∧ Sim (playP P m) (playS S m) := by
  unfold playC playP playS playE
  by_cases e0 : m.what = 0
  · simp only [if_pos e0]
    refine ⟨h.begE _ _ _ _, ?_⟩
    by_cases he : beginE S m.a m.b false m.c = 0
    · rw [if_neg (fun hn => hn he)]; exact h.beg he
    · rw [if_pos he, begP_no (by rw [h.begE]; exact he)]; exact h
  simp only [if_neg e0]
  by_cases e1 : m.what = 1
  · simp only [if_pos e1]
    refine ⟨h.begE _ _ _ _, ?_⟩
    by_cases he : beginE S m.a m.b true m.c = 0
    · rw [if_neg (fun hn => hn he)]; exact h.beg he
    · rw [if_pos he, begP_no (by rw [h.begE]; exact he)]; exact h
  simp only [if_neg e1]
  by_cases e2 : m.what = 2
  · simp only [if_pos e2]
    refine ⟨h.takeE _, ?_⟩
    by_cases he : Go.Proofs.YtncnojgemmcplaaGreatDoor.takeE S m.a = 0
    · rw [if_neg (fun hn => hn he)]; exact h.deli he
    · rw [if_pos he]
      have hn : deliP P m.a = P := by
        have hc := h.takeE m.a
        unfold deliP
        unfold deliC at hc
        rcases h.pair m.a.toNat with ⟨q1, q2⟩ | ⟨x, y, q1, q2, h1, h2, h3⟩
        · rw [q1]
        · rw [q1] at hc ⊢
          have hc' : (if 0 ≤ m.a then if Go.Proofs.YtncnojgemmcplaaGreatDoor.St.goes P x = true then (0 : Int) else 6 else 8) = Go.Proofs.YtncnojgemmcplaaGreatDoor.takeE S m.a := hc
          show (if 0 ≤ m.a then if Go.Proofs.YtncnojgemmcplaaGreatDoor.St.goes P x = true then gotP { P with mails := P.mails.eraseIdx m.a.toNat } x else P else P) = P
          split at hc'
          · next g1 =>
            split at hc'
            · exact absurd hc'.symm he
            · next g2 => rw [if_pos g1, if_neg g2]
          · next g1 => rw [if_neg g1]
      rw [hn]; exact h
  simp only [if_neg e2]
  by_cases e3 : m.what = 3
  · simp only [if_pos e3]
    refine ⟨h.dropE _, ?_⟩
    have hd := h.dropE m.a
    unfold dropC at hd
    unfold dropP
    split at hd
    · next hi => rw [if_pos hi, if_neg (fun hn => hn hd.symm)]; exact h.erase _
    · next hi => rw [if_neg hi, if_pos (by rw [← hd]; decide)]; exact h
  simp only [if_neg e3]
  by_cases e4 : m.what = 4
  · simp only [if_pos e4]
    refine ⟨h.doubE _, ?_⟩
    by_cases he : Go.Proofs.YtncnojgemmcplaaGreatDoor.doubE S m.a = 0
    · rw [if_neg (fun hn => hn he)]; exact h.doub he
    · rw [if_pos he]
      have hd := h.doubE m.a
      have hn : doubP P m.a = P := by
        unfold doubC at hd
        unfold doubP
        rcases h.pair m.a.toNat with ⟨q1, q2⟩ | ⟨x, y, q1, q2, h1, h2, h3⟩
        · rw [q1]
        · rw [q1]
          show (if 0 ≤ m.a then sendP P x else P) = P
          by_cases g : 0 ≤ m.a
          · rw [if_pos g]
            rw [if_pos (by omega)] at hd
            unfold sendP
            split at hd
            · exact absurd hd.symm he
            · next g2 => rw [if_neg g2]
          · rw [if_neg g]
      rw [hn]; exact h
  simp only [if_neg e4]
  by_cases e5 : m.what = 5
  · simp only [if_pos e5]
    refine ⟨h.giveE _, ?_⟩
    by_cases he : Go.Proofs.YtncnojgemmcplaaGreatDoor.giveE S m.a = 0
    · rw [if_neg (fun hn => hn he)]; exact h.give he
    · rw [if_pos he]
      have hd := h.giveE m.a
      have hn : givePP P m.a = P := by
        unfold giveC at hd
        unfold givePP
        split at hd
        · next g1 =>
          split at hd
          · exact absurd hd.symm he
          · next g2 => rw [if_pos g1, if_neg g2]
        · next g1 => rw [if_neg g1]
      rw [hn]; exact h
  simp only [if_neg e5]
  by_cases e6 : m.what = 6
  · simp only [if_pos e6]
    exact ⟨trivial, by rw [if_neg (by decide)]; exact h.all⟩
  simp only [if_neg e6]
  have hE : cutC P (ruleW m.what) m.a m.b = cutE S (ruleOf m) m.a m.b := by
    unfold cutC cutE
    rw [h.n]
    rfl
  refine ⟨hE, ?_⟩
  unfold cutP
  rw [hE]
  by_cases he : cutE S (ruleOf m) m.a m.b = 0
  · rw [if_pos he, if_neg (fun hn => hn he)]
    exact h.cut _ _
  · rw [if_neg he, if_pos he]
    exact h
end
end Go.Proofs.YtncnojgemmcplaaGreatDoor.St

namespace Go.Proofs.YtncnojgemmcplaaGreatDoor.St

def pcl0 : Pcl := ⟨0, ⟨0, 0, 0, 0, 0, 0, 0⟩, 0, [], ⟨⟨0, 0⟩, 0⟩⟩
def pst0 (n k ask tell : Nat) (back : Bool) : Pst := ⟨n, k, ask, tell, back, true, fun _ _ => false, [], fun _ _ => hd0, fun _ => pcl0, [], []⟩
def runP (P : Pst) (l : List Mvs) : Pst := l.foldl playP P
theorem sim0 {n k ask tell : Nat} (back : Bool) (h1 : 1 ≤ n) (h2 : 1 ≤ ask) (h3 : 1 ≤ tell) : Sim (pst0 n k ask tell back) (sto0 n k ask tell back) :=
  ⟨rfl, rfl, rfl, rfl, rfl, h1, h2, h3, fun a b _ _ _ _ => by unfold letL pst0; rw [if_pos rfl]; rfl, ⟨rfl, fun i m x hm => by simp [pst0] at hm⟩, fun m hm => by simp [pst0] at hm, fun _ _ _ _ => ⟨rfl, .inl rfl⟩, fun i _ => ⟨rfl, ⟨fun e => absurd (show false = true from e) (by decide), fun e => absurd (show (0 : Int) = 3 from e) (by decide)⟩, .inl rfl, rfl, fun e => absurd (show false = true from e) (by decide)⟩, rfl, rfl⟩
section
variable {P : Pst} {S : Sto}
end
end Go.Proofs.YtncnojgemmcplaaGreatDoor.St
