/-
  The statement RecordMerges: walked.
-/
import Derived.Test.YtdncnljcihblbaaDoorMrM
import Derived.Test.YtdncnljcihblbaaDoorJaW
namespace Go.Proofs.YtdncnljcihblbaaDoor
open Go.RowKit

theorem told3 : toldV 3 = .iface 28 (.int .i64 3) := by simp [toldV]
theorem told9 : toldV 9 = .iface 28 (.int .i64 9) := by simp [toldV]
theorem told10 : toldV 10 = .iface 28 (.int .i64 10) := by simp [toldV]
theorem insA_step {x : Int} {A : List Kp} {a : Nat} (ha : 0 < a) (hl : a - 1 < A.length) : insA x A a = if A[a - 1].n > x then insA x A (a - 1) else a := by
  obtain ⟨b, rfl⟩ : ∃ b, a = b + 1 := ⟨a - 1, by omega⟩
  simp only [Nat.add_sub_cancel] at hl ⊢
  rw [insA, List.getD_eq_getElem?_getD, List.getElem?_eq_getElem hl]
  rfl
/-- A row of events with tickets, read. -/
theorem own_kps {W : World} {base g cap : Nat} {e : TypeId} {A : List Kp} (h : W.ownsRow base e 8 (.slice (some ⟨g, 0, none⟩) A.length cap) A.length (kpCells A)) : KpsAt W g 0 A := by
  intro i hi
  have key : ∀ c, c < 8 → W.cell? ⟨g, 0 + i * 8 + c, none⟩ = A[i].list[c]? := fun c hc => by
    rw [Nat.zero_add, h.cellAt (i * 8 + c) (by omega), kpCells_get A i c hi hc]
  exact ⟨key 0 (by decide), key 1 (by decide), key 2 (by decide), key 3 (by decide), key 4 (by decide), key 5 (by decide), key 6 (by decide), key 7 (by decide)⟩
theorem own_kp0 {W : World} {base g cap : Nat} {e : TypeId} {A : List Kp} (h : W.ownsRow base e 8 (.slice (some ⟨g, 0, none⟩) A.length cap) A.length (kpCells A)) {i : Nat} (hi : i < A.length) : W.cell? ⟨g, i * 8, none⟩ = some (.int .i64 A[i].n) := by
  have := (own_kps h i hi).1
  rw [Nat.zero_add] at this
  exact this

theorem step_store8 {P : Program} {ops : Array Oper} {op : Oper} {a : Act} {w : World} {K : Act → World → Prop} {Q : Exit → Act → World → Prop} {E : Prop} (hgd : op.guard = none) (ty : TypeId) (x y : Operand) (ho : op.op = .store ty x y)
    (b o : Nat) (cells : Array Value) (hx : a.eval x = .pointer (some ⟨b, o, none⟩)) (hy : a.eval y = .agg cells) (ht : w.there b o cells.size) (hi : (P.info? ty).map (·.size) = some cells.size) (h1 : cells.all (·.oneCell') = true)
    (hK : K (a.put op.dst undef) (w.setCells b o cells.toList)) : if Region.wanted op (yielded ops a.tmps) = true then Oper.wp P op a w K Q else E := by
  have hw : Region.wanted op (yielded ops a.tmps) = true := by simp [Region.wanted, hgd]
  rw [if_pos hw]
  exact wp_store_mid ty x y ho b o cells hx hy ht hi h1 hK
theorem setCells_drew (g : Nat) : ∀ (vs : List Value) (o : Nat) (W : World), (W.drew.setCells g o vs).heap = (W.setCells g o vs).heap
  | [], _, _ => rfl
  | v :: r, o, W => setCells_drew g r (o + 1) (W.setCell ⟨g, o, none⟩ v)
theorem own_setDrew {W : World} {g o base z n : Nat} {vs xs : List Value} {e : TypeId} {v : Value} (h : (W.setCells g o vs).ownsRow base e z v n xs) : (W.drew.setCells g o vs).ownsRow base e z v n xs := by
  obtain ⟨hl, h | ⟨g', cap, cur, rfl, hb, hh, hr⟩⟩ := h
  · exact ⟨hl, .inl h⟩
  · exact ⟨hl, .inr ⟨g', cap, cur, rfl, hb, by rw [setCells_drew]; exact hh, hr⟩⟩
theorem insA_q {x : Int} {A : List Kp} {q : Nat} (hl : q < A.length) : insA x A (q + 1) = if A[q].n > x then insA x A q else q + 1 := by
  rw [insA, List.getD_eq_getElem?_getD, List.getElem?_eq_getElem hl]
  rfl
theorem M2.evAt {w wr : World} {S g n c : Nat} {v1 v2 : Value} {ev : List Ev} (h : M2 w wr S v1 v2 (.slice (some ⟨g, 0, none⟩) n c) ev) {j : Nat} (hj : j < ev.length) : EvAt wr g (j * 7) ev[j] := by
  obtain ⟨_, _, e1, _, h0 | ⟨b, o, e2, _, hat⟩⟩ := ownT_evq h.wro
  · rw [h0] at hj; exact absurd hj (Nat.not_lt_zero _)
  · cases e1; cases e2
    have := hat j hj
    rw [Nat.zero_add] at this
    exact this
theorem M2.tick {w wr : World} {S : Nat} {v1 v2 vw : Value} {ev : List Ev} (h : M2 w wr S v1 v2 vw ev) : wr.cell? ⟨S, 0, none⟩ = some v1 := by rw [cell_of_row wr S 0 _ _ _ h.obj]; rfl
theorem there_of {W : World} {g : Nat} {cur : Array Value} {e : TypeId} (h : W.heap[g]? = some (.cells cur e (0, 0))) {i : Nat} (hi : i < cur.size) : ∃ u, W.cell? ⟨g, i, none⟩ = some u := ⟨cur[i], by rw [cell_of_row W g i _ _ _ h, Array.getElem?_eq_getElem hi]⟩
theorem fz_of {W : World} {g : Nat} {cur : Array Value} {e : TypeId} (h : W.heap[g]? = some (.cells cur e (0, 0))) (i : Nat) : W.frozen? ⟨g, i, none⟩ = false := by simp [World.frozen?, h]
theorem grown_cells8 (W : World) (g o : Nat) (v0 v1 v2 v3 v4 v5 v6 v7 : Value) : W.grownBy ((((((((W.setCell ⟨g, o, none⟩ v0).setCell ⟨g, o + 1, none⟩ v1).setCell ⟨g, o + 2, none⟩ v2).setCell ⟨g, o + 3, none⟩ v3).setCell ⟨g, o + 4, none⟩ v4).setCell ⟨g, o + 5, none⟩ v5).setCell ⟨g, o + 6, none⟩ v6).setCell ⟨g, o + 7, none⟩ v7) (some g) := setCells_grown g [v0, v1, v2, v3, v4, v5, v6, v7] o W
theorem insL_at {B : List Kp} {x : Kp} {a : Nat} (h : insA x.n B B.length = a) : insL B x = B.take a ++ x :: B.drop a := by unfold insL; rw [h]
theorem evq_nil {W : World} : EvQ W (.slice none 0 0) [] := ⟨none, 0, rfl, Nat.le_refl _, Or.inl rfl⟩
theorem SpQ.low {w w' : World} {v : Value} {l : List Spe} (h : SpQ w v l) (hb : Below w.heap.size w w') : SpQ w' v l := by
  obtain ⟨a, c, h1, h2, h3 | ⟨b, o, h4, h5, h6⟩⟩ := h
  · exact ⟨a, c, h1, h2, Or.inl h3⟩
  · refine ⟨a, c, h1, h2, Or.inr ⟨b, o, h4, Nat.lt_of_lt_of_le h5 hb.size, fun i hi => ?_⟩⟩
    obtain ⟨v1, v2, q1, q2, q3, q4⟩ := h6 i hi
    exact ⟨v1, v2, (hb.cell (p := ⟨b, _, none⟩) h5).trans q1, (hb.cell (p := ⟨b, _, none⟩) h5).trans q2, q3.low hb, q4.lowM hb⟩
set_option maxHeartbeats 16000000 in
set_option maxRecDepth 100000 in
theorem merges_walk (v : Value) (l : List Spe) (w : World) (hq : SpQ w v l) (hG : GlE w) (h20 : l.length ≤ 20) :
    Calls Tryd.prog 6 #[v] w fun r w' => r = .returned (.bool true) ∧ Below w.heap.size w w' := by
  obtain ⟨i0, hi, hz0, hz1, hz2⟩ := info_parts' infoO
  obtain ⟨j0, hj0, hy0, hy1, hy2⟩ := info_parts' infoR
  have HQ := hideIt hq
  have HG := hideIt hG
  obtain ⟨a, c, rfl, hc, hA⟩ := hq
  have HA := hideIt hA
  have h20' : ¬ (20 : Int) < (l.length : Int) := by omega
  clear hA hG
  go_enter Tryd.func6, Tryd.ntmps6
  go_wp2
  go_loopw [3, 4, 5] (fun x va i wr => ∃ (k : Nat) (ee : Int) (A : List Kp), k ≤ l.length ∧ i = .int .i64 k ∧ x = .int .i64 ee ∧ A.length ≤ 1200 ∧ wr.ownsRow w.heap.size 58 8 va A.length (kpCells A) ∧ Below w.heap.size w wr ∧ (∀ i, (h : i < l.length) → fltSs (l.take i) = 0 → i < k → l[i].tk.length ≤ 60 ∧ l[i].ev.length ≤ 60) ∧ ((ee = 0 ∧ fltSs (l.take k) = 0 ∧ A = insAll (pairsL (l.take k)) ∧ A.length ≤ k * 60) ∨ (ee = 10 ∧ fltSs l = 10 ∧ ∀ i, (h : i < l.length) → fltSs (l.take i) = 0 → l[i].tk.length ≤ 60 ∧ l[i].ev.length ≤ 60))) (fun _ _ i _ => l.length - (intOf i).toNat)
  case atStart => exact ⟨0, 0, [], Nat.zero_le _, rfl, rfl, by simp, World.ownsRow_nil _ _ _ _, Below.refl _ _, (fun i _ _ h => absurd h (Nat.not_lt_zero _)), Or.inl ⟨rfl, rfl, rfl, by simp⟩⟩
  case round =>
    obtain ⟨k, ee, A, hk, rfl, rfl, hA12, hown, hnx, hsm, hst⟩ := hrel
    have HO := hideIt hown
    have HX := hideIt hnx
    have HSM := hideIt hsm
    have hsz := hnx.size
    obtain ⟨av, cv, rfl⟩ := own_shapeX hown
    clear hown hnx hsm
    by_cases hlt : k < l.length
    · have hki : (k : Int) < (l.length : Int) := by omega
      have hkd : decide ((k : Int) < (l.length : Int)) = true := decide_eq_true hki
      rcases hst with ⟨rfl, hflt, hAe, hAl⟩ | ⟨rfl, hflt, hall⟩
      · rcases HA.out with h0 | ⟨b, o, rfl, hb, hat⟩
        · rw [h0] at hlt; exact absurd hlt (Nat.not_lt_zero _)
        have HF := hideIt hflt
        have HAE := hideIt hAe
        obtain ⟨v1, v2, s1, s2, hi1, he2⟩ := hat k hlt
        have s1' := (HX.out.cell (p := ⟨b, o + k * 2, none⟩) hb).trans s1
        have s2' := (HX.out.cell (p := ⟨b, o + k * 2 + 1, none⟩) hb).trans s2
        have HI0 := hideIt hi1
        have HE0 := hideIt he2
        obtain ⟨a1, c1, rfl, hc1, _⟩ := hi1
        obtain ⟨a2, c2, rfl, hc2, _⟩ := he2
        have HSP : Hid (∀ j, (h1 : j < l[k].tk.length) → (h2 : j < l[k].ev.length) → prsK l k (j + 1) = prsK l k j ++ [⟨l[k].tk[j], l[k].ev[j]⟩]) := fun j h1 h2 => prsK_snoc hlt h1 h2
        have HP0 := hideIt (prsK_zero l k)
        have HPN : Hid (∀ n, l[k].tk.length ≤ n → prsK l k n = pairsL (l.take (k + 1))) := fun n hn => prsK_next hlt (Nat.le_trans (by unfold pairL; rw [List.length_zipWith]; omega) hn)
        have HFS : Hid (fltS l[k] ≠ 0 → fltSs l = fltS l[k]) := fun h => fltSs_take hlt HF.out h
        have HFN : Hid (fltS l[k] = 0 → fltSs (l.take (k + 1)) = 0) := fun h => fltSs_snoc hlt HF.out h
        have HSK : Hid (l[k].tk.length ≤ 60 → l[k].ev.length ≤ 60 → ∀ i, (h : i < l.length) → fltSs (l.take i) = 0 → i < k + 1 → l[i].tk.length ≤ 60 ∧ l[i].ev.length ≤ 60) := fun h1 h2 i h h3 h4 => by
          by_cases e : i = k
          · subst e; exact ⟨h1, h2⟩
          · exact HSM.out i h h3 (by omega)
        have HSA : Hid (l[k].tk.length ≤ 60 → l[k].ev.length ≤ 60 → fltS l[k] ≠ 0 → ∀ i, (h : i < l.length) → fltSs (l.take i) = 0 → l[i].tk.length ≤ 60 ∧ l[i].ev.length ≤ 60) := fun h1 h2 hf i h h3 => by
          by_cases e : i < k + 1
          · exact HSK.out h1 h2 i h h3 e
          · exact absurd h3 (by
              have : fltSs (l.take i) = fltS l[k] := by
                have h5 : k < (l.take i).length := by simp; omega
                have := fltSs_take (l := l.take i) (i := k) h5 (by rw [List.take_take, Nat.min_eq_left (by omega)]; exact HF.out) (by rw [List.getElem_take]; exact hf)
                rw [this, List.getElem_take]
              rw [this]; exact hf)
        clear hat s1 s2 hflt hAe
        generalize l[k] = s at *
        have hbz : b < wr.heap.size := by omega
        by_cases h1 : s.tk.length ≤ 60
        · by_cases h2 : s.ev.length ≤ 60
          · have h1' : ¬ (60 : Int) < (s.tk.length : Int) := by omega
            have h2' : ¬ (60 : Int) < (s.ev.length : Int) := by omega
            have d1 : decide ((60 : Int) < (s.tk.length : Int)) = false := decide_eq_false h1'
            by_cases hlen : s.tk.length = s.ev.length
            · have hne : (((s.tk.length : Nat) : Int) != ((s.ev.length : Nat) : Int)) = false := by simp [hlen]
              have HLE := hideIt hlen
              have HEvs := hideIt (fun W (hq : EvQ W (.slice a2 s.ev.length c2) s.ev) => events_any _ s.ev W hq (by omega))
              clear hlen
              go_wp2_with fail
              refine (HEvs.out _ (HE0.out.low (below_alloc HX.out _))).mono ?_
              rintro x w1 ⟨vw, rfl, how, hbw⟩
              have hMa : M2 w w1 wr.heap.size (.slice a1 s.tk.length c1) (.slice a2 s.ev.length c2) vw s.ev := ⟨(hbw.block _ (by simp)).trans (heap_alloc_new wr _), own_mono how (by simp; omega), below_join (below_alloc HX.out _) hbw⟩
              have HOw := hideIt ((HO.out.alloc (.cells #[.slice a1 s.tk.length c1, .slice a2 s.ev.length c2] 56)).kept (grown_of_below hbw none) (own_anyM _))
              obtain ⟨aw, cw, rfl⟩ := own_shapeX how
              obtain ⟨S, hS⟩ : ∃ S, S = wr.heap.size := ⟨_, rfl⟩
              rw [← hS] at hMa ⊢
              have HMa := hideIt hMa
              have pa := hMa.tick
              have pb : w1.cell? ⟨S, 1, none⟩ = some (.slice a2 s.ev.length c2) := by rw [cell_of_row w1 S 1 _ _ _ hMa.obj]; rfl
              have hk19 : k * 60 + 60 ≤ 1200 := by omega
              clear how hbw hMa hS s1' s2' hsz hbz
              go_wp2
              go_loopw [3, 4, 8] (fun x va i wq => ∃ (j : Nat) (ee : Int) (B : List Kp), j ≤ s.tk.length ∧ i = .int .i64 j ∧ x = .int .i64 ee ∧ B = insAll (prsK l k j) ∧ B.length ≤ k * 60 + j ∧ wq.ownsRow w.heap.size 58 8 va B.length (kpCells B) ∧ M2 w wq S (.slice a1 s.tk.length c1) (.slice a2 s.ev.length c2) (.slice aw s.ev.length cw) s.ev ∧ ((ee = 0 ∧ ∀ i, (h : i + 1 < s.tk.length) → i + 1 < j → s.tk[i] < s.tk[i + 1]) ∨ (ee = 10 ∧ riseB s.tk = false))) (fun _ _ i _ => s.tk.length - (intOf i).toNat)
              case atStart => exact ⟨0, 0, A, Nat.zero_le _, rfl, rfl, by rw [HP0.out]; exact HAE.out, by omega, HOw.out, HMa.out, Or.inl ⟨rfl, fun i _ h => by omega⟩⟩
              case round =>
                obtain ⟨j, ee, B, hj, rfl, rfl, hBe, hBl, hown2, hm2, hst2⟩ := hrel
                have HBE := hideIt hBe
                have HO2 := hideIt hown2
                have HM2 := hideIt hm2
                obtain ⟨av2, cv2, rfl⟩ := own_shapeX hown2
                have hev := HLE.out
                have HSM2 := hideIt (HSK.out h1 h2)
                clear hBe hown2 hm2 HOw HMa pa pb
                by_cases hjt : j < s.tk.length
                · have hjt2 : j < s.ev.length := by omega
                  have ji : (j : Int) < (s.ev.length : Int) := by omega
                  have jd : decide ((j : Int) < (s.ev.length : Int)) = true := decide_eq_true ji
                  have jti : (j : Int) < (s.tk.length : Int) := by omega
                  clear hev
                  rcases hst2 with ⟨rfl, hup⟩ | ⟨rfl, hri⟩
                  · have HUP := hideIt hup
                    clear hup
                    obtain ⟨W3, rfl⟩ : ∃ W3, W3 = wr := ⟨_, rfl⟩
                    have hszW := HM2.out.bel.size
                    obtain ⟨a1', c1', eq1, _, h0 | ⟨b1, o1, eq2, hb1, hc1t⟩⟩ := HI0.out
                    · rw [h0] at hjt; exact absurd hjt (Nat.not_lt_zero _)
                    injection eq1 with eq1 eqb eqc
                    subst eq1 eq2
                    clear eqb eqc
                    obtain ⟨gw, eqw⟩ : ∃ gw, aw = some ⟨gw, 0, none⟩ := by
                      rcases own_shapeK HM2.out.wro with ⟨_, h0⟩ | ⟨g, c, e, _, _⟩
                      · omega
                      · injection e with e _ _; exact ⟨g, e⟩
                    subst eqw
                    have HX1 := hideIt (hc1t j hjt)
                    have x1w := (HM2.out.bel.cell (p := ⟨b1, o1 + j, none⟩) hb1).trans (hc1t j hjt)
                    have p0w := HM2.out.tick
                    have HEE : Hid (∀ W, M2 w W S (.slice (some ⟨b1, o1, none⟩) s.tk.length c1) (.slice a2 s.ev.length c2) (.slice (some ⟨gw, 0, none⟩) s.ev.length cw) s.ev → EvAt W gw (j * 7) s.ev[j]) := fun W h => h.evAt hjt2
                    have HBN : Hid (insAll (prsK l k (j + 1)) = insL B ⟨s.tk[j], s.ev[j]⟩) := by
                      show insAll (prsK l k (j + 1)) = insL B ⟨s.tk[j], s.ev[j]⟩
                      rw [HSP.out j hjt hjt2, insAll_snoc, ← HBE.out]
                    have HUN : Hid (∀ (h0 : 0 < j), ((s.tk[j - 1]'(by omega)) < s.tk[j] → ∀ i, (h : i + 1 < s.tk.length) → i + 1 < j + 1 → s.tk[i] < s.tk[i + 1]) ∧ (¬ (s.tk[j - 1]'(by omega)) < s.tk[j] → riseB s.tk = false)) := by
                      intro h0
                      obtain ⟨m, rfl⟩ : ∃ m, j = m + 1 := ⟨j - 1, by omega⟩
                      refine ⟨fun hxy i hi hij => ?_, fun hxy => ?_⟩
                      · by_cases e : i = m
                        · subst e; simpa using hxy
                        · exact HUP.out i hi (by omega)
                      · cases hr : riseB s.tk
                        · rfl
                        · exact absurd (by simpa using (riseB_iff s.tk).1 hr m hjt) hxy
                    have HC1 := hideIt (fun (h0 : 0 < j) => (HM2.out.bel.cell (p := ⟨b1, o1 + (j - 1), none⟩) hb1).trans (hc1t (j - 1) (by omega)))
                    have HU0 : Hid (j = 0 → ∀ i, (h : i + 1 < s.tk.length) → i + 1 < j + 1 → s.tk[i] < s.tk[i + 1]) := fun h0 i _ hij => by omega
                    clear hc1t HBE
                    by_cases hj0 : 0 < j
                    · have hcp := HC1.out hj0
                      have hun := HUN.out hj0
                      have j1i : (1 : Int) ≤ (j : Int) := by omega
                      have j0i : (0 : Int) < (j : Int) := by omega
                      have j0d : decide ((0 : Int) < (j : Int)) = true := decide_eq_true j0i
                      have j0dn : decide (0 < j) = true := decide_eq_true hj0
                      obtain ⟨q, hq⟩ : ∃ q, q = j - 1 := ⟨_, rfl⟩
                      have hwq : IntKind.i64.wrap ((j : Int) - 1) = (q : Int) := by rw [IntKind.wrap_i64]; omega
                      have hqt : q < s.tk.length := by omega
                      have HUq : Hid ((s.tk[q] < s.tk[j] → ∀ i, (h : i + 1 < s.tk.length) → i + 1 < j + 1 → s.tk[i] < s.tk[i + 1]) ∧ (¬ s.tk[q] < s.tk[j] → riseB s.tk = false)) := by
                        subst hq; exact hun
                      have hcq : W3.cell? ⟨b1, o1 + q, none⟩ = some (.int .i64 s.tk[q]) := by subst hq; exact hcp
                      clear hcp hun hq HUN HC1 HU0
                      generalize hge : s.ev[j] = ev at *
                      clear hge
                      generalize hyq : s.tk[q] = y at *
                      clear hyq
                      generalize hgt0 : s.tk[j] = tk at *
                      clear hgt0
                      by_cases hxy : y < tk
                      · have hle : ¬ tk ≤ y := by omega
                        have HN := hideIt (HUq.out.1 hxy)
                        clear HUq hxy
                        go_wp2_with fail
                        go_quiet (fail)
                        clear x1w p0w hcq
                        go_wp2
                        go_loopw [9] (fun x wq => ∃ (a n : Nat), a ≤ B.length ∧ x = .int .i64 a ∧ insA tk B B.length = insA tk B a ∧ wq = W3.drewN n) (fun x _ => (intOf x).toNat)
                        case atStart => exact ⟨B.length, _, Nat.le_refl _, rfl, rfl, rfl⟩
                        case round =>
                          obtain ⟨a, n, hal, rfl, hins, rfl⟩ := hrel
                          have HIN := hideIt hins
                          clear hins
                          by_cases ha0 : 0 < a
                          · have hb0 : 0 < B.length := by omega
                            rcases own_shapeK HO2.out with ⟨eq1, hn0⟩ | ⟨gB, cB, eq1, hbB, hgB⟩
                            · omega
                            injection eq1 with eq1 eqb eqc
                            clear eqb eqc
                            subst eq1
                            obtain ⟨q, hq⟩ : ∃ q, q + 1 = a := ⟨a - 1, by omega⟩
                            have hqB : q < B.length := by omega
                            have hks := own_kp0 HO2.out hqB
                            have HST2 : Hid (insA tk B a = if B[q].n > tk then insA tk B q else a) := by
                              show insA tk B a = if B[q].n > tk then insA tk B q else a
                              rw [← hq]; exact insA_q hqB
                            have a1i : (1 : Int) ≤ (a : Int) := by omega
                            have a0i : (0 : Int) < (a : Int) := by omega
                            have a0d : decide ((0 : Int) < (a : Int)) = true := decide_eq_true a0i
                            have a0dn : decide (0 < a) = true := decide_eq_true ha0
                            have aBi : (a : Int) ≤ (B.length : Int) := by omega
                            have hwq : IntKind.i64.wrap ((a : Int) - 1) = (q : Int) := by rw [IntKind.wrap_i64]; omega
                            have HQA := hideIt hq
                            clear hq
                            have x1w := (HM2.out.bel.cell (p := ⟨b1, o1 + j, none⟩) hb1).trans HX1.out
                            have p0w := HM2.out.tick
                            have hgBz : gB < W3.heap.size := hgB
                            by_cases hgt : B[q].n > tk
                            · have hgt' : tk < B[q].n := hgt
                              rw [if_pos hgt] at HST2
                              have HR3 : Hid (insA tk B B.length = insA tk B q) := by show insA tk B B.length = insA tk B q; rw [HIN.out, HST2.out]
                              generalize B[q].n = bn at *
                              go_wp2_with fail
                              go_quiet (fail)
                              go_wp2
                              go_roundw
                              case rel => exact ⟨q, _, by omega, by first | rfl | (exact val_int (by have := HQA.out; omega)), HR3.out, rfl⟩
                              case measure => have := HQA.out; simp [intOf]; omega
                            · have hgt' : ¬ tk < B[q].n := hgt
                              rw [if_neg hgt] at HST2
                              have HIa : Hid (insA tk B B.length = a) := by show insA tk B B.length = a; rw [HIN.out, HST2.out]
                              generalize B[q].n = bn at *
                              go_wp2_with fail
                              go_quiet (fail)
                              have HIL : Hid (insL B ⟨tk, ev⟩ = B.take a ++ ⟨tk, ev⟩ :: B.drop a) := insL_at (x := ⟨tk, ev⟩) HIa.out
                              go_wp2_with (at_builtin; refine wpList_append_own _ rfl _ _ 53 rfl w.heap.size 58 i0 _ 8 64 Tryd.underlying53 hi hz0 hz1 hz2 rfl (by decide) _ _ _ rfl ((own_drewN HO2.out _).alloc _) ⟨W3.heap.size, 0, none⟩ 1 1 [.int .i64 0, .int .i64 0, .int .i64 0, .int .i64 0, .int .i64 0, .int .i64 0, .int .i64 0, .int .i64 0] rfl rfl ?b1 ?b2 ?b3 ?b4 ?b5 ?_)
                              case b1 =>
                                intro j' u hj'
                                exact new_at rfl (by simpa using hj')
                              case b2 => intro u hu; simp at hu; subst hu; rfl
                              case b3 => unfold maxLen; omega
                              case b4 => omega
                              case b5 => simp; omega
                              intro v3 w3 ho3 hg3 _
                              have ho4 : w3.ownsRow w.heap.size 58 8 v3 (B.length + 1) (kpCells (B ++ [⟨0, zeroE⟩])) := by rw [kpCells_snoc]; exact ho3
                              have hM3 : M2 w w3 S (.slice (some ⟨b1, o1, none⟩) s.tk.length c1) (.slice a2 s.ev.length c2) (.slice (some ⟨gw, 0, none⟩) s.ev.length cw) s.ev := ((HM2.out.below (below_drewN (Below.refl _ _) _)).below (below_alloc (Below.refl _ _) _)).turn ((own_drewN HO2.out _).alloc _) hg3
                              obtain ⟨g3, c3, rfl, hbg3, hgz3⟩ : ∃ g c, v3 = .slice (some ⟨g, 0, none⟩) (B.length + 1) c ∧ w.heap.size ≤ g ∧ g < w3.heap.size := by
                                rcases own_shapeK ho4 with ⟨_, h0⟩ | ⟨g, c, e, h1, h2⟩
                                · omega
                                · exact ⟨g, c, e, h1, h2⟩
                              have hc3 : B.length + 1 ≤ c3 := by
                                obtain ⟨_, ⟨e, _⟩ | ⟨g, cap, cur, e, _, _, h5, _⟩⟩ := ho4
                                · cases e
                                · injection e with _ _ e3; omega
                              have HO4 := hideIt ho4
                              have HM3 := hideIt hM3
                              have hz3 : W3.heap.size ≤ w3.heap.size := by have := hg3.size; simp at this; omega
                              clear ho3 ho4 hg3 hM3
                              go_wp2_with fail
                              have ha1 : (a : Int) + 1 ≤ (c3 : Int) := by omega
                              have ha0 : (0 : Int) ≤ (a : Int) + 1 := by omega
                              have ha2 : (a : Int) + 1 ≤ (B.length : Int) + 1 := by omega
                              have ha3 : (a : Int) ≤ (B.length : Int) + 1 := by omega
                              have haw : IntKind.i64.wrap ((a : Int) + 1) = (a : Int) + 1 := by rw [IntKind.wrap_i64]; omega
                              have hat : ((a : Int) + 1).toNat = a + 1 := by omega
                              have hca : ¬ c3 = a := by omega
                              obtain ⟨dpp, hdp⟩ : ∃ d, (if c3 = a + 1 then some (⟨g3, 0, none⟩ : Addr) else some ⟨g3, (a + 1) * 8, none⟩) = d := ⟨_, rfl⟩
                              refine wp_region_held_drew (S := fun _ => True) (by kernel_rfl) True.intro (fun hHeld => ?_)
                              refine wpAnyH_take (i := 0) (v := ?_) rfl (by kernel_rfl) (by kernel_rfl) (by kernel_rfl) (fun _ _ _ h => h) (Or.inl ⟨by rfl, ?_⟩) (by assumption) ?_
                              rotate_left 1
                              · intro wz hwz
                                go_simp
                                all_goals with_reducible rfl
                              simp only [Act.put, List.setIfInBounds_toArray, List.set_cons_zero, List.set_cons_succ, List.getElem_toArray, List.getElem_cons_zero]
                              refine wpAnyH_take (i := 1) (v := ?_) rfl (by kernel_rfl) (by kernel_rfl) (by kernel_rfl) (fun _ _ _ h => h) (Or.inl ⟨by rfl, ?_⟩) (by assumption) ?_
                              rotate_left 1
                              · intro wz hwz
                                go_simp
                                all_goals with_reducible rfl
                              simp only [Act.put, List.setIfInBounds_toArray, List.set_cons_zero, List.set_cons_succ, List.getElem_toArray, List.getElem_cons_zero, List.getElem_cons_succ]
                              refine wpAnyH_take (i := 2) (v := ?_) rfl (by kernel_rfl) (by kernel_rfl) (by kernel_rfl) (fun _ _ _ h => h) (Or.inl ⟨by rfl, ?_⟩) (by assumption) ?_
                              rotate_left 1
                              · intro wz hwz
                                go_simp
                                all_goals with_reducible rfl
                              simp only [Act.put, List.setIfInBounds_toArray, List.set_cons_zero, List.set_cons_succ, List.getElem_toArray, List.getElem_cons_zero, List.getElem_cons_succ]
                              refine wpAnyH_take (i := 3) (v := ?_) rfl (by kernel_rfl) (by kernel_rfl) (by kernel_rfl) (fun _ _ _ h => h) (Or.inl ⟨by rfl, ?_⟩) (by assumption) ?_
                              rotate_left 1
                              · intro wz hwz
                                go_simp
                                all_goals with_reducible rfl
                              simp only [Act.put, List.setIfInBounds_toArray, List.set_cons_zero, List.set_cons_succ, List.getElem_toArray, List.getElem_cons_zero, List.getElem_cons_succ]
                              refine wpAnyH_take (i := 4) (v := ?_) rfl (by kernel_rfl) (by kernel_rfl) (by kernel_rfl) (fun _ _ _ h => h) (Or.inl ⟨by rfl, ?_⟩) (by assumption) ?_
                              rotate_left 1
                              · intro wz hwz
                                go_simp
                                all_goals with_reducible rfl
                              simp only [Act.put, List.setIfInBounds_toArray, List.set_cons_zero, List.set_cons_succ, List.getElem_toArray, List.getElem_cons_zero, List.getElem_cons_succ]
                              refine wpAnyH_take (i := 5) (v := ?_) rfl (by kernel_rfl) (by kernel_rfl) (by kernel_rfl) (fun _ _ _ h => h) (Or.inl ⟨by rfl, ?_⟩) (by assumption) ?_
                              rotate_left 1
                              · intro wz hwz
                                go_simp
                                all_goals with_reducible rfl
                              simp only [Act.put, List.setIfInBounds_toArray, List.set_cons_zero, List.set_cons_succ, List.getElem_toArray, List.getElem_cons_zero, List.getElem_cons_succ]
                              refine wpAnyH_take (i := 6) (v := ?_) rfl (by kernel_rfl) (by kernel_rfl) (by kernel_rfl) (fun _ _ _ h => h) (Or.inl ⟨by rfl, ?_⟩) (by assumption) ?_
                              rotate_left 1
                              · intro wz hwz
                                go_simp
                                all_goals with_reducible rfl
                              simp only [Act.put, List.setIfInBounds_toArray, List.set_cons_zero, List.set_cons_succ, List.getElem_toArray, List.getElem_cons_zero, List.getElem_cons_succ]
                              refine wpAnyH_ready (rs := [7]) (by kernel_rfl) (by simp) (AllReadyH.cons rfl (fun K hK => ?_) AllReadyH.nil)
                              refine step_copy_ins (by rfl) _ _ (by rfl) _ _ _ _ _ _ (by rfl) (by rfl) w.heap.size g3 c3 B ⟨0, zeroE⟩ a (own_drewN HO4.out 1) hal (by omega) (by omega) (fun hlt => ⟨by first | rfl | (rw [← hdp, if_neg (by omega)]) | (rw [if_neg (by omega)]), by first | rfl | (rw [if_neg (by omega)])⟩) ?_
                              refine hK.out _ _ ?_ (fun hHeld => ?_)
                              · exact True.intro
                              clear hK K
                              refine wpAnyH_done (by kernel_rfl) ?_ _
                              generalize hW4 : World.setCells _ g3 ((a + 1) * 8) (kpCells (B.drop a)) = W4
                              have hg4 : w3.grownBy W4 (some g3) := by rw [← hW4]; exact grown_trans (grown_of_below (below_drewN (Below.refl _ _) 1) _) (setCells_grown g3 _ _ _)
                              have hM4 : M2 w W4 S (.slice (some ⟨b1, o1, none⟩) s.tk.length c1) (.slice a2 s.ev.length c2) (.slice (some ⟨gw, 0, none⟩) s.ev.length cw) s.ev := HM3.out.turn HO4.out hg4
                              have hobj4 : ∃ cur, W4.heap[g3]? = some (.cells cur 58 (0, 0)) ∧ (B.length + 1) * 8 ≤ cur.size := by
                                obtain ⟨_, ⟨e, _⟩ | ⟨g, cap, cur, e, _, hh, h1, _, h3, _⟩⟩ := own_drewN HO4.out 1
                                · cases e
                                · injection e with e1 _ e3
                                  injection e1 with e1
                                  injection e1 with e1 _
                                  subst e1
                                  have hcs : (kpCells (B.drop a)).length = (B.length - a) * 8 := by rw [kpCells_len, List.length_drop]
                                  refine ⟨_, by rw [← hW4]; exact setCells_row g3 (kpCells (B.drop a)) ((a + 1) * 8) _ cur hh (by rw [hcs, h3]; omega), ?_⟩
                                  rw [List.size_toArray, overL_len (by rw [hcs]; simp; omega)]
                                  simp; omega
                              have HPut : Hid ((W4.setCells g3 (a * 8) (Kp.list ⟨tk, ev⟩)).ownsRow w.heap.size 58 8 (.slice (some ⟨g3, 0, none⟩) (B.length + 1) c3) (B.length + 1) (kpCells (insL B ⟨tk, ev⟩))) := by
                                rw [HIL.out, ← hW4]
                                exact row_put (own_drewN HO4.out 1) hal
                              obtain ⟨cur4, hobj4, hcur4⟩ := hobj4
                              have HTh : Hid (W4.drew.there g3 (a * 8) 8) := fun j hj => ⟨by obtain ⟨u, e⟩ := there_of (W := W4.drew) hobj4 (i := a * 8 + j) (by omega); rw [e]; rfl, fz_of (W := W4.drew) hobj4 _⟩
                              have HO4' : Hid (∀ W5, W4.grownBy W5 (some g3) → M2 w W5 S (.slice (some ⟨b1, o1, none⟩) s.tk.length c1) (.slice a2 s.ev.length c2) (.slice (some ⟨gw, 0, none⟩) s.ev.length cw) s.ev) := fun W5 hg5 => HM3.out.turn HO4.out (grown_trans hg4 hg5)
                              have HM4 := hideIt hM4
                              have hz4 : g3 < W4.heap.size := Nat.lt_of_lt_of_le hgz3 hg4.size
                              clear hW4 hg4 hM4 hobj4 hcur4 HM3 HO4 hHeld ha0 ha2 ha3 haw hat hca hdp
                              go_wp2_with fail
                              have hab : (a : Int) < (B.length : Int) + 1 := by omega
                              refine wp_region_held_drew (S := fun W => M2 w W S (.slice (some ⟨b1, o1, none⟩) s.tk.length c1) (.slice a2 s.ev.length c2) (.slice (some ⟨gw, 0, none⟩) s.ev.length cw) s.ev) (by kernel_rfl) (HM4.out.below (below_drewN (Below.refl _ _) 1)) (fun hHeld => ?_)
                              refine wpAnyH_take (i := 0) (v := ?_) rfl (by kernel_rfl) (by kernel_rfl) (by kernel_rfl) (fun _ _ _ h => h) (Or.inl ⟨by rfl, ?_⟩) (by assumption) ?_
                              rotate_left 1
                              · intro wz hwz
                                go_simp
                                all_goals with_reducible rfl
                              simp only [Act.put, List.setIfInBounds_toArray, List.getElem_toArray, List.getElem_cons_zero]
                              refine wpAnyH_take (i := 1) (v := ?_) rfl (by kernel_rfl) (by kernel_rfl) (by kernel_rfl) (fun _ _ _ h => h) (Or.inl ⟨by rfl, ?_⟩) (by assumption) ?_
                              rotate_left 1
                              · intro wz hwz
                                go_simp
                                all_goals with_reducible rfl
                              simp only [Act.put, List.setIfInBounds_toArray, List.set_cons_zero, List.set_cons_succ, List.getElem_toArray, List.getElem_cons_zero, List.getElem_cons_succ]
                              refine wpAnyH_take (i := 2) (v := ?_) rfl (by kernel_rfl) (by kernel_rfl) (by kernel_rfl) (fun _ _ _ h => h) (Or.inl ⟨by rfl, ?_⟩) (by assumption) ?_
                              rotate_left 1
                              · intro wz hwz
                                go_simp
                                all_goals with_reducible rfl
                              simp only [Act.put, List.setIfInBounds_toArray, List.set_cons_zero, List.set_cons_succ, List.getElem_toArray, List.getElem_cons_zero, List.getElem_cons_succ]
                              refine wpAnyH_take (i := 3) (v := ?_) rfl (by kernel_rfl) (by kernel_rfl) (by kernel_rfl) (fun _ _ _ h => h) (Or.inl ⟨by rfl, ?_⟩) (by assumption) ?_
                              rotate_left 1
                              · intro wz hwz
                                have q0 := hwz.tick
                                go_simp
                                all_goals with_reducible rfl
                              simp only [Act.put, List.setIfInBounds_toArray, List.set_cons_zero, List.set_cons_succ, List.getElem_toArray, List.getElem_cons_zero, List.getElem_cons_succ]
                              refine wpAnyH_take (i := 4) (v := ?_) rfl (by kernel_rfl) (by kernel_rfl) (by kernel_rfl) (fun _ _ _ h => h) (Or.inl ⟨by rfl, ?_⟩) (by assumption) ?_
                              rotate_left 1
                              · intro wz hwz
                                go_simp
                                all_goals with_reducible rfl
                              simp only [Act.put, List.setIfInBounds_toArray, List.set_cons_zero, List.set_cons_succ, List.getElem_toArray, List.getElem_cons_zero, List.getElem_cons_succ]
                              refine wpAnyH_take (i := 5) (v := ?_) rfl (by kernel_rfl) (by kernel_rfl) (by kernel_rfl) (fun _ _ _ h => h) (Or.inl ⟨by rfl, ?_⟩) (by assumption) ?_
                              rotate_left 1
                              · intro wz hwz
                                go_simp
                                all_goals with_reducible rfl
                              simp only [Act.put, List.setIfInBounds_toArray, List.set_cons_zero, List.set_cons_succ, List.getElem_toArray, List.getElem_cons_zero, List.getElem_cons_succ]
                              refine wpAnyH_take (i := 6) (v := ?_) rfl (by kernel_rfl) (by kernel_rfl) (by kernel_rfl) (fun _ _ _ h => h) (Or.inl ⟨by rfl, ?_⟩) (by assumption) ?_
                              rotate_left 1
                              · intro wz hwz
                                have q0 := (hwz.bel.cell (p := ⟨b1, o1 + j, none⟩) hb1).trans HX1.out
                                go_simp
                                all_goals with_reducible rfl
                              simp only [Act.put, List.setIfInBounds_toArray, List.set_cons_zero, List.set_cons_succ, List.getElem_toArray, List.getElem_cons_zero, List.getElem_cons_succ]
                              refine wpAnyH_take (i := 7) (v := ?_) rfl (by kernel_rfl) (by kernel_rfl) (by kernel_rfl) (fun _ _ _ h => h) (Or.inl ⟨by rfl, ?_⟩) (by assumption) ?_
                              rotate_left 1
                              · intro wz hwz
                                go_simp
                                all_goals with_reducible rfl
                              simp only [Act.put, List.setIfInBounds_toArray, List.set_cons_zero, List.set_cons_succ, List.getElem_toArray, List.getElem_cons_zero, List.getElem_cons_succ]
                              refine wpAnyH_take (i := 8) (v := ?_) rfl (by kernel_rfl) (by kernel_rfl) (by kernel_rfl) (fun _ _ _ h => h) (Or.inl ⟨by rfl, ?_⟩) (by assumption) ?_
                              rotate_left 1
                              · intro wz hwz
                                go_simp
                                all_goals with_reducible rfl
                              simp only [Act.put, List.setIfInBounds_toArray, List.set_cons_zero, List.set_cons_succ, List.getElem_toArray, List.getElem_cons_zero, List.getElem_cons_succ]
                              refine wpAnyH_take (i := 9) (v := ?_) rfl (by kernel_rfl) (by kernel_rfl) (by kernel_rfl) (fun _ _ _ h => h) (Or.inl ⟨by rfl, ?_⟩) (by assumption) ?_
                              rotate_left 1
                              · intro wz hwz
                                go_simp
                                all_goals with_reducible rfl
                              simp only [Act.put, List.setIfInBounds_toArray, List.set_cons_zero, List.set_cons_succ, List.getElem_toArray, List.getElem_cons_zero, List.getElem_cons_succ]
                              refine wpAnyH_take (i := 10) (v := ?_) rfl (by kernel_rfl) (by kernel_rfl) (by kernel_rfl) (fun _ _ _ h => h) (Or.inl ⟨by rfl, ?_⟩) (by assumption) ?_
                              rotate_left 1
                              · intro wz hwz
                                obtain ⟨q0, q1, q2, q3, q4, q5, q6⟩ := HEE.out _ hwz
                                go_simp
                                all_goals with_reducible rfl
                              simp only [Act.put, List.setIfInBounds_toArray, List.set_cons_zero, List.set_cons_succ, List.getElem_toArray, List.getElem_cons_zero, List.getElem_cons_succ]
                              refine wpAnyH_take (i := 11) (v := ?_) rfl (by kernel_rfl) (by kernel_rfl) (by kernel_rfl) (fun _ _ _ h => h) (Or.inl ⟨by rfl, ?_⟩) (by assumption) ?_
                              rotate_left 1
                              · intro wz hwz
                                go_simp
                                all_goals with_reducible rfl
                              simp only [Act.put, List.setIfInBounds_toArray, List.set_cons_zero, List.set_cons_succ, List.getElem_toArray, List.getElem_cons_zero, List.getElem_cons_succ]
                              refine wpAnyH_take (i := 12) (v := ?_) rfl (by kernel_rfl) (by kernel_rfl) (by kernel_rfl) (fun _ _ _ h => h) (Or.inl ⟨by rfl, ?_⟩) (by assumption) ?_
                              rotate_left 1
                              · intro wz hwz
                                go_simp
                                all_goals with_reducible rfl
                              simp only [Act.put, List.setIfInBounds_toArray, List.set_cons_zero, List.set_cons_succ, List.getElem_toArray, List.getElem_cons_zero, List.getElem_cons_succ]
                              refine wpAnyH_ready (rs := [13]) (by kernel_rfl) (by simp) (AllReadyH.cons rfl (fun K hK => ?_) AllReadyH.nil)
                              refine step_store8 (by rfl) 58 _ _ (by rfl) g3 (a * 8) #[.int .i64 tk, .int .i64 ev.p, .int .i64 ev.t, .int .i64 ev.k, .int .i64 ev.d, .int .i64 ev.a, .int .i64 ev.b, .int .i64 ev.r] (by rfl) (by rfl) HTh.out size8 (all_oneCell_toArray (cs := Kp.list ⟨tk, ev⟩) (fun v hv => kpCells_one [⟨tk, ev⟩] v (by simpa [kpCells] using hv))) ?_
                              refine hK.out _ _ ?_ (fun hHeld => ?_)
                              · exact HO4'.out _ (grown_trans (grown_of_below (below_drewN (Below.refl _ _) 1) _) (setCells_grown g3 _ _ _))
                              clear hK K
                              refine wpAnyH_done (by kernel_rfl) ?_ _
                              generalize hW6 : World.setCells _ g3 (a * 8) _ = W6 at hHeld ⊢
                              have HP6 : Hid (W6.ownsRow w.heap.size 58 8 (.slice (some ⟨g3, 0, none⟩) (B.length + 1) c3) (B.length + 1) (kpCells (insL B ⟨tk, ev⟩))) := by rw [← hW6]; exact own_setDrew HPut.out
                              clear hW6 HPut HTh
                              have HM5 := hideIt hHeld
                              clear hHeld
                              go_wp2
                              go_roundw
                              case rel => exact ⟨j + 1, 0, insL B ⟨tk, ev⟩, by omega, by go_num, rfl, by rw [HBN.out], by rw [insL_len]; omega, by rw [insL_len]; exact HP6.out, HM5.out, Or.inl ⟨rfl, HN.out⟩⟩
                              case measure => simp [intOf]; omega
                          · have ha00 : a = 0 := by omega
                            have a0i : ¬ (0 : Int) < (a : Int) := by omega
                            have a0d : decide ((0 : Int) < (a : Int)) = false := decide_eq_false a0i
                            have a0dn : decide (0 < a) = false := decide_eq_false ha0
                            have HIa : Hid (insA tk B B.length = a) := by
                              show insA tk B B.length = a
                              rw [HIN.out, ha00]; unfold insA; rfl
                            clear ha00
                            go_wp2_with fail
                            go_quiet (fail)
                            have HIL : Hid (insL B ⟨tk, ev⟩ = B.take a ++ ⟨tk, ev⟩ :: B.drop a) := insL_at (x := ⟨tk, ev⟩) HIa.out
                            go_wp2_with (at_builtin; refine wpList_append_own _ rfl _ _ 53 rfl w.heap.size 58 i0 _ 8 64 Tryd.underlying53 hi hz0 hz1 hz2 rfl (by decide) _ _ _ rfl ((own_drewN HO2.out _).alloc _) ⟨W3.heap.size, 0, none⟩ 1 1 [.int .i64 0, .int .i64 0, .int .i64 0, .int .i64 0, .int .i64 0, .int .i64 0, .int .i64 0, .int .i64 0] rfl rfl ?b1 ?b2 ?b3 ?b4 ?b5 ?_)
                            case b1 =>
                              intro j' u hj'
                              exact new_at rfl (by simpa using hj')
                            case b2 => intro u hu; simp at hu; subst hu; rfl
                            case b3 => unfold maxLen; omega
                            case b4 => omega
                            case b5 => simp; omega
                            intro v3 w3 ho3 hg3 _
                            have ho4 : w3.ownsRow w.heap.size 58 8 v3 (B.length + 1) (kpCells (B ++ [⟨0, zeroE⟩])) := by rw [kpCells_snoc]; exact ho3
                            have hM3 : M2 w w3 S (.slice (some ⟨b1, o1, none⟩) s.tk.length c1) (.slice a2 s.ev.length c2) (.slice (some ⟨gw, 0, none⟩) s.ev.length cw) s.ev := ((HM2.out.below (below_drewN (Below.refl _ _) _)).below (below_alloc (Below.refl _ _) _)).turn ((own_drewN HO2.out _).alloc _) hg3
                            obtain ⟨g3, c3, rfl, hbg3, hgz3⟩ : ∃ g c, v3 = .slice (some ⟨g, 0, none⟩) (B.length + 1) c ∧ w.heap.size ≤ g ∧ g < w3.heap.size := by
                              rcases own_shapeK ho4 with ⟨_, h0⟩ | ⟨g, c, e, h1, h2⟩
                              · omega
                              · exact ⟨g, c, e, h1, h2⟩
                            have hc3 : B.length + 1 ≤ c3 := by
                              obtain ⟨_, ⟨e, _⟩ | ⟨g, cap, cur, e, _, _, h5, _⟩⟩ := ho4
                              · cases e
                              · injection e with _ _ e3; omega
                            have HO4 := hideIt ho4
                            have HM3 := hideIt hM3
                            have hz3 : W3.heap.size ≤ w3.heap.size := by have := hg3.size; simp at this; omega
                            clear ho3 ho4 hg3 hM3
                            go_wp2_with fail
                            have ha1 : (a : Int) + 1 ≤ (c3 : Int) := by omega
                            have ha0 : (0 : Int) ≤ (a : Int) + 1 := by omega
                            have ha2 : (a : Int) + 1 ≤ (B.length : Int) + 1 := by omega
                            have ha3 : (a : Int) ≤ (B.length : Int) + 1 := by omega
                            have haw : IntKind.i64.wrap ((a : Int) + 1) = (a : Int) + 1 := by rw [IntKind.wrap_i64]; omega
                            have hat : ((a : Int) + 1).toNat = a + 1 := by omega
                            have hca : ¬ c3 = a := by omega
                            obtain ⟨dpp, hdp⟩ : ∃ d, (if c3 = a + 1 then some (⟨g3, 0, none⟩ : Addr) else some ⟨g3, (a + 1) * 8, none⟩) = d := ⟨_, rfl⟩
                            refine wp_region_held_drew (S := fun _ => True) (by kernel_rfl) True.intro (fun hHeld => ?_)
                            refine wpAnyH_take (i := 0) (v := ?_) rfl (by kernel_rfl) (by kernel_rfl) (by kernel_rfl) (fun _ _ _ h => h) (Or.inl ⟨by rfl, ?_⟩) (by assumption) ?_
                            rotate_left 1
                            · intro wz hwz
                              go_simp
                              all_goals with_reducible rfl
                            simp only [Act.put, List.setIfInBounds_toArray, List.set_cons_zero, List.set_cons_succ, List.getElem_toArray, List.getElem_cons_zero]
                            refine wpAnyH_take (i := 1) (v := ?_) rfl (by kernel_rfl) (by kernel_rfl) (by kernel_rfl) (fun _ _ _ h => h) (Or.inl ⟨by rfl, ?_⟩) (by assumption) ?_
                            rotate_left 1
                            · intro wz hwz
                              go_simp
                              all_goals with_reducible rfl
                            simp only [Act.put, List.setIfInBounds_toArray, List.set_cons_zero, List.set_cons_succ, List.getElem_toArray, List.getElem_cons_zero, List.getElem_cons_succ]
                            refine wpAnyH_take (i := 2) (v := ?_) rfl (by kernel_rfl) (by kernel_rfl) (by kernel_rfl) (fun _ _ _ h => h) (Or.inl ⟨by rfl, ?_⟩) (by assumption) ?_
                            rotate_left 1
                            · intro wz hwz
                              go_simp
                              all_goals with_reducible rfl
                            simp only [Act.put, List.setIfInBounds_toArray, List.set_cons_zero, List.set_cons_succ, List.getElem_toArray, List.getElem_cons_zero, List.getElem_cons_succ]
                            refine wpAnyH_take (i := 3) (v := ?_) rfl (by kernel_rfl) (by kernel_rfl) (by kernel_rfl) (fun _ _ _ h => h) (Or.inl ⟨by rfl, ?_⟩) (by assumption) ?_
                            rotate_left 1
                            · intro wz hwz
                              go_simp
                              all_goals with_reducible rfl
                            simp only [Act.put, List.setIfInBounds_toArray, List.set_cons_zero, List.set_cons_succ, List.getElem_toArray, List.getElem_cons_zero, List.getElem_cons_succ]
                            refine wpAnyH_take (i := 4) (v := ?_) rfl (by kernel_rfl) (by kernel_rfl) (by kernel_rfl) (fun _ _ _ h => h) (Or.inl ⟨by rfl, ?_⟩) (by assumption) ?_
                            rotate_left 1
                            · intro wz hwz
                              go_simp
                              all_goals with_reducible rfl
                            simp only [Act.put, List.setIfInBounds_toArray, List.set_cons_zero, List.set_cons_succ, List.getElem_toArray, List.getElem_cons_zero, List.getElem_cons_succ]
                            refine wpAnyH_take (i := 5) (v := ?_) rfl (by kernel_rfl) (by kernel_rfl) (by kernel_rfl) (fun _ _ _ h => h) (Or.inl ⟨by rfl, ?_⟩) (by assumption) ?_
                            rotate_left 1
                            · intro wz hwz
                              go_simp
                              all_goals with_reducible rfl
                            simp only [Act.put, List.setIfInBounds_toArray, List.set_cons_zero, List.set_cons_succ, List.getElem_toArray, List.getElem_cons_zero, List.getElem_cons_succ]
                            refine wpAnyH_take (i := 6) (v := ?_) rfl (by kernel_rfl) (by kernel_rfl) (by kernel_rfl) (fun _ _ _ h => h) (Or.inl ⟨by rfl, ?_⟩) (by assumption) ?_
                            rotate_left 1
                            · intro wz hwz
                              go_simp
                              all_goals with_reducible rfl
                            simp only [Act.put, List.setIfInBounds_toArray, List.set_cons_zero, List.set_cons_succ, List.getElem_toArray, List.getElem_cons_zero, List.getElem_cons_succ]
                            refine wpAnyH_ready (rs := [7]) (by kernel_rfl) (by simp) (AllReadyH.cons rfl (fun K hK => ?_) AllReadyH.nil)
                            refine step_copy_ins (by rfl) _ _ (by rfl) _ _ _ _ _ _ (by rfl) (by rfl) w.heap.size g3 c3 B ⟨0, zeroE⟩ a (own_drewN HO4.out 1) hal (by omega) (by omega) (fun hlt => ⟨by first | rfl | (rw [← hdp, if_neg (by omega)]) | (rw [if_neg (by omega)]), by first | rfl | (rw [if_neg (by omega)])⟩) ?_
                            refine hK.out _ _ ?_ (fun hHeld => ?_)
                            · exact True.intro
                            clear hK K
                            refine wpAnyH_done (by kernel_rfl) ?_ _
                            generalize hW4 : World.setCells _ g3 ((a + 1) * 8) (kpCells (B.drop a)) = W4
                            have hg4 : w3.grownBy W4 (some g3) := by rw [← hW4]; exact grown_trans (grown_of_below (below_drewN (Below.refl _ _) 1) _) (setCells_grown g3 _ _ _)
                            have hM4 : M2 w W4 S (.slice (some ⟨b1, o1, none⟩) s.tk.length c1) (.slice a2 s.ev.length c2) (.slice (some ⟨gw, 0, none⟩) s.ev.length cw) s.ev := HM3.out.turn HO4.out hg4
                            have hobj4 : ∃ cur, W4.heap[g3]? = some (.cells cur 58 (0, 0)) ∧ (B.length + 1) * 8 ≤ cur.size := by
                              obtain ⟨_, ⟨e, _⟩ | ⟨g, cap, cur, e, _, hh, h1, _, h3, _⟩⟩ := own_drewN HO4.out 1
                              · cases e
                              · injection e with e1 _ e3
                                injection e1 with e1
                                injection e1 with e1 _
                                subst e1
                                have hcs : (kpCells (B.drop a)).length = (B.length - a) * 8 := by rw [kpCells_len, List.length_drop]
                                refine ⟨_, by rw [← hW4]; exact setCells_row g3 (kpCells (B.drop a)) ((a + 1) * 8) _ cur hh (by rw [hcs, h3]; omega), ?_⟩
                                rw [List.size_toArray, overL_len (by rw [hcs]; simp; omega)]
                                simp; omega
                            have HPut : Hid ((W4.setCells g3 (a * 8) (Kp.list ⟨tk, ev⟩)).ownsRow w.heap.size 58 8 (.slice (some ⟨g3, 0, none⟩) (B.length + 1) c3) (B.length + 1) (kpCells (insL B ⟨tk, ev⟩))) := by
                              rw [HIL.out, ← hW4]
                              exact row_put (own_drewN HO4.out 1) hal
                            obtain ⟨cur4, hobj4, hcur4⟩ := hobj4
                            have HTh : Hid (W4.drew.there g3 (a * 8) 8) := fun j hj => ⟨by obtain ⟨u, e⟩ := there_of (W := W4.drew) hobj4 (i := a * 8 + j) (by omega); rw [e]; rfl, fz_of (W := W4.drew) hobj4 _⟩
                            have HO4' : Hid (∀ W5, W4.grownBy W5 (some g3) → M2 w W5 S (.slice (some ⟨b1, o1, none⟩) s.tk.length c1) (.slice a2 s.ev.length c2) (.slice (some ⟨gw, 0, none⟩) s.ev.length cw) s.ev) := fun W5 hg5 => HM3.out.turn HO4.out (grown_trans hg4 hg5)
                            have HM4 := hideIt hM4
                            have hz4 : g3 < W4.heap.size := Nat.lt_of_lt_of_le hgz3 hg4.size
                            clear hW4 hg4 hM4 hobj4 hcur4 HM3 HO4 hHeld ha0 ha2 ha3 haw hat hca hdp
                            go_wp2_with fail
                            have hab : (a : Int) < (B.length : Int) + 1 := by omega
                            refine wp_region_held_drew (S := fun W => M2 w W S (.slice (some ⟨b1, o1, none⟩) s.tk.length c1) (.slice a2 s.ev.length c2) (.slice (some ⟨gw, 0, none⟩) s.ev.length cw) s.ev) (by kernel_rfl) (HM4.out.below (below_drewN (Below.refl _ _) 1)) (fun hHeld => ?_)
                            refine wpAnyH_take (i := 0) (v := ?_) rfl (by kernel_rfl) (by kernel_rfl) (by kernel_rfl) (fun _ _ _ h => h) (Or.inl ⟨by rfl, ?_⟩) (by assumption) ?_
                            rotate_left 1
                            · intro wz hwz
                              go_simp
                              all_goals with_reducible rfl
                            simp only [Act.put, List.setIfInBounds_toArray, List.getElem_toArray, List.getElem_cons_zero]
                            refine wpAnyH_take (i := 1) (v := ?_) rfl (by kernel_rfl) (by kernel_rfl) (by kernel_rfl) (fun _ _ _ h => h) (Or.inl ⟨by rfl, ?_⟩) (by assumption) ?_
                            rotate_left 1
                            · intro wz hwz
                              go_simp
                              all_goals with_reducible rfl
                            simp only [Act.put, List.setIfInBounds_toArray, List.set_cons_zero, List.set_cons_succ, List.getElem_toArray, List.getElem_cons_zero, List.getElem_cons_succ]
                            refine wpAnyH_take (i := 2) (v := ?_) rfl (by kernel_rfl) (by kernel_rfl) (by kernel_rfl) (fun _ _ _ h => h) (Or.inl ⟨by rfl, ?_⟩) (by assumption) ?_
                            rotate_left 1
                            · intro wz hwz
                              go_simp
                              all_goals with_reducible rfl
                            simp only [Act.put, List.setIfInBounds_toArray, List.set_cons_zero, List.set_cons_succ, List.getElem_toArray, List.getElem_cons_zero, List.getElem_cons_succ]
                            refine wpAnyH_take (i := 3) (v := ?_) rfl (by kernel_rfl) (by kernel_rfl) (by kernel_rfl) (fun _ _ _ h => h) (Or.inl ⟨by rfl, ?_⟩) (by assumption) ?_
                            rotate_left 1
                            · intro wz hwz
                              have q0 := hwz.tick
                              go_simp
                              all_goals with_reducible rfl
                            simp only [Act.put, List.setIfInBounds_toArray, List.set_cons_zero, List.set_cons_succ, List.getElem_toArray, List.getElem_cons_zero, List.getElem_cons_succ]
                            refine wpAnyH_take (i := 4) (v := ?_) rfl (by kernel_rfl) (by kernel_rfl) (by kernel_rfl) (fun _ _ _ h => h) (Or.inl ⟨by rfl, ?_⟩) (by assumption) ?_
                            rotate_left 1
                            · intro wz hwz
                              go_simp
                              all_goals with_reducible rfl
                            simp only [Act.put, List.setIfInBounds_toArray, List.set_cons_zero, List.set_cons_succ, List.getElem_toArray, List.getElem_cons_zero, List.getElem_cons_succ]
                            refine wpAnyH_take (i := 5) (v := ?_) rfl (by kernel_rfl) (by kernel_rfl) (by kernel_rfl) (fun _ _ _ h => h) (Or.inl ⟨by rfl, ?_⟩) (by assumption) ?_
                            rotate_left 1
                            · intro wz hwz
                              go_simp
                              all_goals with_reducible rfl
                            simp only [Act.put, List.setIfInBounds_toArray, List.set_cons_zero, List.set_cons_succ, List.getElem_toArray, List.getElem_cons_zero, List.getElem_cons_succ]
                            refine wpAnyH_take (i := 6) (v := ?_) rfl (by kernel_rfl) (by kernel_rfl) (by kernel_rfl) (fun _ _ _ h => h) (Or.inl ⟨by rfl, ?_⟩) (by assumption) ?_
                            rotate_left 1
                            · intro wz hwz
                              have q0 := (hwz.bel.cell (p := ⟨b1, o1 + j, none⟩) hb1).trans HX1.out
                              go_simp
                              all_goals with_reducible rfl
                            simp only [Act.put, List.setIfInBounds_toArray, List.set_cons_zero, List.set_cons_succ, List.getElem_toArray, List.getElem_cons_zero, List.getElem_cons_succ]
                            refine wpAnyH_take (i := 7) (v := ?_) rfl (by kernel_rfl) (by kernel_rfl) (by kernel_rfl) (fun _ _ _ h => h) (Or.inl ⟨by rfl, ?_⟩) (by assumption) ?_
                            rotate_left 1
                            · intro wz hwz
                              go_simp
                              all_goals with_reducible rfl
                            simp only [Act.put, List.setIfInBounds_toArray, List.set_cons_zero, List.set_cons_succ, List.getElem_toArray, List.getElem_cons_zero, List.getElem_cons_succ]
                            refine wpAnyH_take (i := 8) (v := ?_) rfl (by kernel_rfl) (by kernel_rfl) (by kernel_rfl) (fun _ _ _ h => h) (Or.inl ⟨by rfl, ?_⟩) (by assumption) ?_
                            rotate_left 1
                            · intro wz hwz
                              go_simp
                              all_goals with_reducible rfl
                            simp only [Act.put, List.setIfInBounds_toArray, List.set_cons_zero, List.set_cons_succ, List.getElem_toArray, List.getElem_cons_zero, List.getElem_cons_succ]
                            refine wpAnyH_take (i := 9) (v := ?_) rfl (by kernel_rfl) (by kernel_rfl) (by kernel_rfl) (fun _ _ _ h => h) (Or.inl ⟨by rfl, ?_⟩) (by assumption) ?_
                            rotate_left 1
                            · intro wz hwz
                              go_simp
                              all_goals with_reducible rfl
                            simp only [Act.put, List.setIfInBounds_toArray, List.set_cons_zero, List.set_cons_succ, List.getElem_toArray, List.getElem_cons_zero, List.getElem_cons_succ]
                            refine wpAnyH_take (i := 10) (v := ?_) rfl (by kernel_rfl) (by kernel_rfl) (by kernel_rfl) (fun _ _ _ h => h) (Or.inl ⟨by rfl, ?_⟩) (by assumption) ?_
                            rotate_left 1
                            · intro wz hwz
                              obtain ⟨q0, q1, q2, q3, q4, q5, q6⟩ := HEE.out _ hwz
                              go_simp
                              all_goals with_reducible rfl
                            simp only [Act.put, List.setIfInBounds_toArray, List.set_cons_zero, List.set_cons_succ, List.getElem_toArray, List.getElem_cons_zero, List.getElem_cons_succ]
                            refine wpAnyH_take (i := 11) (v := ?_) rfl (by kernel_rfl) (by kernel_rfl) (by kernel_rfl) (fun _ _ _ h => h) (Or.inl ⟨by rfl, ?_⟩) (by assumption) ?_
                            rotate_left 1
                            · intro wz hwz
                              go_simp
                              all_goals with_reducible rfl
                            simp only [Act.put, List.setIfInBounds_toArray, List.set_cons_zero, List.set_cons_succ, List.getElem_toArray, List.getElem_cons_zero, List.getElem_cons_succ]
                            refine wpAnyH_take (i := 12) (v := ?_) rfl (by kernel_rfl) (by kernel_rfl) (by kernel_rfl) (fun _ _ _ h => h) (Or.inl ⟨by rfl, ?_⟩) (by assumption) ?_
                            rotate_left 1
                            · intro wz hwz
                              go_simp
                              all_goals with_reducible rfl
                            simp only [Act.put, List.setIfInBounds_toArray, List.set_cons_zero, List.set_cons_succ, List.getElem_toArray, List.getElem_cons_zero, List.getElem_cons_succ]
                            refine wpAnyH_ready (rs := [13]) (by kernel_rfl) (by simp) (AllReadyH.cons rfl (fun K hK => ?_) AllReadyH.nil)
                            refine step_store8 (by rfl) 58 _ _ (by rfl) g3 (a * 8) #[.int .i64 tk, .int .i64 ev.p, .int .i64 ev.t, .int .i64 ev.k, .int .i64 ev.d, .int .i64 ev.a, .int .i64 ev.b, .int .i64 ev.r] (by rfl) (by rfl) HTh.out size8 (all_oneCell_toArray (cs := Kp.list ⟨tk, ev⟩) (fun v hv => kpCells_one [⟨tk, ev⟩] v (by simpa [kpCells] using hv))) ?_
                            refine hK.out _ _ ?_ (fun hHeld => ?_)
                            · exact HO4'.out _ (grown_trans (grown_of_below (below_drewN (Below.refl _ _) 1) _) (setCells_grown g3 _ _ _))
                            clear hK K
                            refine wpAnyH_done (by kernel_rfl) ?_ _
                            generalize hW6 : World.setCells _ g3 (a * 8) _ = W6 at hHeld ⊢
                            have HP6 : Hid (W6.ownsRow w.heap.size 58 8 (.slice (some ⟨g3, 0, none⟩) (B.length + 1) c3) (B.length + 1) (kpCells (insL B ⟨tk, ev⟩))) := by rw [← hW6]; exact own_setDrew HPut.out
                            clear hW6 HPut HTh
                            have HM5 := hideIt hHeld
                            clear hHeld
                            go_wp2
                            go_roundw
                            case rel => exact ⟨j + 1, 0, insL B ⟨tk, ev⟩, by omega, by go_num, rfl, by rw [HBN.out], by rw [insL_len]; omega, by rw [insL_len]; exact HP6.out, HM5.out, Or.inl ⟨rfl, HN.out⟩⟩
                            case measure => simp [intOf]; omega
                      · have hle : tk ≤ y := by omega
                        have HN := hideIt (HUq.out.2 hxy)
                        clear HUq hxy
                        go_wp2_with fail
                        go_quiet (fail)
                        clear x1w p0w hcq
                        go_wp2
                        go_loopw [9] (fun x wq => ∃ (a n : Nat), a ≤ B.length ∧ x = .int .i64 a ∧ insA tk B B.length = insA tk B a ∧ wq = W3.drewN n) (fun x _ => (intOf x).toNat)
                        case atStart => exact ⟨B.length, _, Nat.le_refl _, rfl, rfl, rfl⟩
                        case round =>
                          obtain ⟨a, n, hal, rfl, hins, rfl⟩ := hrel
                          have HIN := hideIt hins
                          clear hins
                          by_cases ha0 : 0 < a
                          · have hb0 : 0 < B.length := by omega
                            rcases own_shapeK HO2.out with ⟨eq1, hn0⟩ | ⟨gB, cB, eq1, hbB, hgB⟩
                            · omega
                            injection eq1 with eq1 eqb eqc
                            clear eqb eqc
                            subst eq1
                            obtain ⟨q, hq⟩ : ∃ q, q + 1 = a := ⟨a - 1, by omega⟩
                            have hqB : q < B.length := by omega
                            have hks := own_kp0 HO2.out hqB
                            have HST2 : Hid (insA tk B a = if B[q].n > tk then insA tk B q else a) := by
                              show insA tk B a = if B[q].n > tk then insA tk B q else a
                              rw [← hq]; exact insA_q hqB
                            have a1i : (1 : Int) ≤ (a : Int) := by omega
                            have a0i : (0 : Int) < (a : Int) := by omega
                            have a0d : decide ((0 : Int) < (a : Int)) = true := decide_eq_true a0i
                            have a0dn : decide (0 < a) = true := decide_eq_true ha0
                            have aBi : (a : Int) ≤ (B.length : Int) := by omega
                            have hwq : IntKind.i64.wrap ((a : Int) - 1) = (q : Int) := by rw [IntKind.wrap_i64]; omega
                            have HQA := hideIt hq
                            clear hq
                            have x1w := (HM2.out.bel.cell (p := ⟨b1, o1 + j, none⟩) hb1).trans HX1.out
                            have p0w := HM2.out.tick
                            have hgBz : gB < W3.heap.size := hgB
                            by_cases hgt : B[q].n > tk
                            · have hgt' : tk < B[q].n := hgt
                              rw [if_pos hgt] at HST2
                              have HR3 : Hid (insA tk B B.length = insA tk B q) := by show insA tk B B.length = insA tk B q; rw [HIN.out, HST2.out]
                              generalize B[q].n = bn at *
                              go_wp2_with fail
                              go_quiet (fail)
                              go_wp2
                              go_roundw
                              case rel => exact ⟨q, _, by omega, by first | rfl | (exact val_int (by have := HQA.out; omega)), HR3.out, rfl⟩
                              case measure => have := HQA.out; simp [intOf]; omega
                            · have hgt' : ¬ tk < B[q].n := hgt
                              rw [if_neg hgt] at HST2
                              have HIa : Hid (insA tk B B.length = a) := by show insA tk B B.length = a; rw [HIN.out, HST2.out]
                              generalize B[q].n = bn at *
                              go_wp2_with fail
                              go_quiet (fail)
                              have HIL : Hid (insL B ⟨tk, ev⟩ = B.take a ++ ⟨tk, ev⟩ :: B.drop a) := insL_at (x := ⟨tk, ev⟩) HIa.out
                              go_wp2_with (at_builtin; refine wpList_append_own _ rfl _ _ 53 rfl w.heap.size 58 i0 _ 8 64 Tryd.underlying53 hi hz0 hz1 hz2 rfl (by decide) _ _ _ rfl ((own_drewN HO2.out _).alloc _) ⟨W3.heap.size, 0, none⟩ 1 1 [.int .i64 0, .int .i64 0, .int .i64 0, .int .i64 0, .int .i64 0, .int .i64 0, .int .i64 0, .int .i64 0] rfl rfl ?b1 ?b2 ?b3 ?b4 ?b5 ?_)
                              case b1 =>
                                intro j' u hj'
                                exact new_at rfl (by simpa using hj')
                              case b2 => intro u hu; simp at hu; subst hu; rfl
                              case b3 => unfold maxLen; omega
                              case b4 => omega
                              case b5 => simp; omega
                              intro v3 w3 ho3 hg3 _
                              have ho4 : w3.ownsRow w.heap.size 58 8 v3 (B.length + 1) (kpCells (B ++ [⟨0, zeroE⟩])) := by rw [kpCells_snoc]; exact ho3
                              have hM3 : M2 w w3 S (.slice (some ⟨b1, o1, none⟩) s.tk.length c1) (.slice a2 s.ev.length c2) (.slice (some ⟨gw, 0, none⟩) s.ev.length cw) s.ev := ((HM2.out.below (below_drewN (Below.refl _ _) _)).below (below_alloc (Below.refl _ _) _)).turn ((own_drewN HO2.out _).alloc _) hg3
                              obtain ⟨g3, c3, rfl, hbg3, hgz3⟩ : ∃ g c, v3 = .slice (some ⟨g, 0, none⟩) (B.length + 1) c ∧ w.heap.size ≤ g ∧ g < w3.heap.size := by
                                rcases own_shapeK ho4 with ⟨_, h0⟩ | ⟨g, c, e, h1, h2⟩
                                · omega
                                · exact ⟨g, c, e, h1, h2⟩
                              have hc3 : B.length + 1 ≤ c3 := by
                                obtain ⟨_, ⟨e, _⟩ | ⟨g, cap, cur, e, _, _, h5, _⟩⟩ := ho4
                                · cases e
                                · injection e with _ _ e3; omega
                              have HO4 := hideIt ho4
                              have HM3 := hideIt hM3
                              have hz3 : W3.heap.size ≤ w3.heap.size := by have := hg3.size; simp at this; omega
                              clear ho3 ho4 hg3 hM3
                              go_wp2_with fail
                              have ha1 : (a : Int) + 1 ≤ (c3 : Int) := by omega
                              have ha0 : (0 : Int) ≤ (a : Int) + 1 := by omega
                              have ha2 : (a : Int) + 1 ≤ (B.length : Int) + 1 := by omega
                              have ha3 : (a : Int) ≤ (B.length : Int) + 1 := by omega
                              have haw : IntKind.i64.wrap ((a : Int) + 1) = (a : Int) + 1 := by rw [IntKind.wrap_i64]; omega
                              have hat : ((a : Int) + 1).toNat = a + 1 := by omega
                              have hca : ¬ c3 = a := by omega
                              obtain ⟨dpp, hdp⟩ : ∃ d, (if c3 = a + 1 then some (⟨g3, 0, none⟩ : Addr) else some ⟨g3, (a + 1) * 8, none⟩) = d := ⟨_, rfl⟩
                              refine wp_region_held_drew (S := fun _ => True) (by kernel_rfl) True.intro (fun hHeld => ?_)
                              refine wpAnyH_take (i := 0) (v := ?_) rfl (by kernel_rfl) (by kernel_rfl) (by kernel_rfl) (fun _ _ _ h => h) (Or.inl ⟨by rfl, ?_⟩) (by assumption) ?_
                              rotate_left 1
                              · intro wz hwz
                                go_simp
                                all_goals with_reducible rfl
                              simp only [Act.put, List.setIfInBounds_toArray, List.set_cons_zero, List.set_cons_succ, List.getElem_toArray, List.getElem_cons_zero]
                              refine wpAnyH_take (i := 1) (v := ?_) rfl (by kernel_rfl) (by kernel_rfl) (by kernel_rfl) (fun _ _ _ h => h) (Or.inl ⟨by rfl, ?_⟩) (by assumption) ?_
                              rotate_left 1
                              · intro wz hwz
                                go_simp
                                all_goals with_reducible rfl
                              simp only [Act.put, List.setIfInBounds_toArray, List.set_cons_zero, List.set_cons_succ, List.getElem_toArray, List.getElem_cons_zero, List.getElem_cons_succ]
                              refine wpAnyH_take (i := 2) (v := ?_) rfl (by kernel_rfl) (by kernel_rfl) (by kernel_rfl) (fun _ _ _ h => h) (Or.inl ⟨by rfl, ?_⟩) (by assumption) ?_
                              rotate_left 1
                              · intro wz hwz
                                go_simp
                                all_goals with_reducible rfl
                              simp only [Act.put, List.setIfInBounds_toArray, List.set_cons_zero, List.set_cons_succ, List.getElem_toArray, List.getElem_cons_zero, List.getElem_cons_succ]
                              refine wpAnyH_take (i := 3) (v := ?_) rfl (by kernel_rfl) (by kernel_rfl) (by kernel_rfl) (fun _ _ _ h => h) (Or.inl ⟨by rfl, ?_⟩) (by assumption) ?_
                              rotate_left 1
                              · intro wz hwz
                                go_simp
                                all_goals with_reducible rfl
                              simp only [Act.put, List.setIfInBounds_toArray, List.set_cons_zero, List.set_cons_succ, List.getElem_toArray, List.getElem_cons_zero, List.getElem_cons_succ]
                              refine wpAnyH_take (i := 4) (v := ?_) rfl (by kernel_rfl) (by kernel_rfl) (by kernel_rfl) (fun _ _ _ h => h) (Or.inl ⟨by rfl, ?_⟩) (by assumption) ?_
                              rotate_left 1
                              · intro wz hwz
                                go_simp
                                all_goals with_reducible rfl
                              simp only [Act.put, List.setIfInBounds_toArray, List.set_cons_zero, List.set_cons_succ, List.getElem_toArray, List.getElem_cons_zero, List.getElem_cons_succ]
                              refine wpAnyH_take (i := 5) (v := ?_) rfl (by kernel_rfl) (by kernel_rfl) (by kernel_rfl) (fun _ _ _ h => h) (Or.inl ⟨by rfl, ?_⟩) (by assumption) ?_
                              rotate_left 1
                              · intro wz hwz
                                go_simp
                                all_goals with_reducible rfl
                              simp only [Act.put, List.setIfInBounds_toArray, List.set_cons_zero, List.set_cons_succ, List.getElem_toArray, List.getElem_cons_zero, List.getElem_cons_succ]
                              refine wpAnyH_take (i := 6) (v := ?_) rfl (by kernel_rfl) (by kernel_rfl) (by kernel_rfl) (fun _ _ _ h => h) (Or.inl ⟨by rfl, ?_⟩) (by assumption) ?_
                              rotate_left 1
                              · intro wz hwz
                                go_simp
                                all_goals with_reducible rfl
                              simp only [Act.put, List.setIfInBounds_toArray, List.set_cons_zero, List.set_cons_succ, List.getElem_toArray, List.getElem_cons_zero, List.getElem_cons_succ]
                              refine wpAnyH_ready (rs := [7]) (by kernel_rfl) (by simp) (AllReadyH.cons rfl (fun K hK => ?_) AllReadyH.nil)
                              refine step_copy_ins (by rfl) _ _ (by rfl) _ _ _ _ _ _ (by rfl) (by rfl) w.heap.size g3 c3 B ⟨0, zeroE⟩ a (own_drewN HO4.out 1) hal (by omega) (by omega) (fun hlt => ⟨by first | rfl | (rw [← hdp, if_neg (by omega)]) | (rw [if_neg (by omega)]), by first | rfl | (rw [if_neg (by omega)])⟩) ?_
                              refine hK.out _ _ ?_ (fun hHeld => ?_)
                              · exact True.intro
                              clear hK K
                              refine wpAnyH_done (by kernel_rfl) ?_ _
                              generalize hW4 : World.setCells _ g3 ((a + 1) * 8) (kpCells (B.drop a)) = W4
                              have hg4 : w3.grownBy W4 (some g3) := by rw [← hW4]; exact grown_trans (grown_of_below (below_drewN (Below.refl _ _) 1) _) (setCells_grown g3 _ _ _)
                              have hM4 : M2 w W4 S (.slice (some ⟨b1, o1, none⟩) s.tk.length c1) (.slice a2 s.ev.length c2) (.slice (some ⟨gw, 0, none⟩) s.ev.length cw) s.ev := HM3.out.turn HO4.out hg4
                              have hobj4 : ∃ cur, W4.heap[g3]? = some (.cells cur 58 (0, 0)) ∧ (B.length + 1) * 8 ≤ cur.size := by
                                obtain ⟨_, ⟨e, _⟩ | ⟨g, cap, cur, e, _, hh, h1, _, h3, _⟩⟩ := own_drewN HO4.out 1
                                · cases e
                                · injection e with e1 _ e3
                                  injection e1 with e1
                                  injection e1 with e1 _
                                  subst e1
                                  have hcs : (kpCells (B.drop a)).length = (B.length - a) * 8 := by rw [kpCells_len, List.length_drop]
                                  refine ⟨_, by rw [← hW4]; exact setCells_row g3 (kpCells (B.drop a)) ((a + 1) * 8) _ cur hh (by rw [hcs, h3]; omega), ?_⟩
                                  rw [List.size_toArray, overL_len (by rw [hcs]; simp; omega)]
                                  simp; omega
                              have HPut : Hid ((W4.setCells g3 (a * 8) (Kp.list ⟨tk, ev⟩)).ownsRow w.heap.size 58 8 (.slice (some ⟨g3, 0, none⟩) (B.length + 1) c3) (B.length + 1) (kpCells (insL B ⟨tk, ev⟩))) := by
                                rw [HIL.out, ← hW4]
                                exact row_put (own_drewN HO4.out 1) hal
                              obtain ⟨cur4, hobj4, hcur4⟩ := hobj4
                              have HTh : Hid (W4.drew.there g3 (a * 8) 8) := fun j hj => ⟨by obtain ⟨u, e⟩ := there_of (W := W4.drew) hobj4 (i := a * 8 + j) (by omega); rw [e]; rfl, fz_of (W := W4.drew) hobj4 _⟩
                              have HO4' : Hid (∀ W5, W4.grownBy W5 (some g3) → M2 w W5 S (.slice (some ⟨b1, o1, none⟩) s.tk.length c1) (.slice a2 s.ev.length c2) (.slice (some ⟨gw, 0, none⟩) s.ev.length cw) s.ev) := fun W5 hg5 => HM3.out.turn HO4.out (grown_trans hg4 hg5)
                              have HM4 := hideIt hM4
                              have hz4 : g3 < W4.heap.size := Nat.lt_of_lt_of_le hgz3 hg4.size
                              clear hW4 hg4 hM4 hobj4 hcur4 HM3 HO4 hHeld ha0 ha2 ha3 haw hat hca hdp
                              go_wp2_with fail
                              have hab : (a : Int) < (B.length : Int) + 1 := by omega
                              refine wp_region_held_drew (S := fun W => M2 w W S (.slice (some ⟨b1, o1, none⟩) s.tk.length c1) (.slice a2 s.ev.length c2) (.slice (some ⟨gw, 0, none⟩) s.ev.length cw) s.ev) (by kernel_rfl) (HM4.out.below (below_drewN (Below.refl _ _) 1)) (fun hHeld => ?_)
                              refine wpAnyH_take (i := 0) (v := ?_) rfl (by kernel_rfl) (by kernel_rfl) (by kernel_rfl) (fun _ _ _ h => h) (Or.inl ⟨by rfl, ?_⟩) (by assumption) ?_
                              rotate_left 1
                              · intro wz hwz
                                go_simp
                                all_goals with_reducible rfl
                              simp only [Act.put, List.setIfInBounds_toArray, List.getElem_toArray, List.getElem_cons_zero]
                              refine wpAnyH_take (i := 1) (v := ?_) rfl (by kernel_rfl) (by kernel_rfl) (by kernel_rfl) (fun _ _ _ h => h) (Or.inl ⟨by rfl, ?_⟩) (by assumption) ?_
                              rotate_left 1
                              · intro wz hwz
                                go_simp
                                all_goals with_reducible rfl
                              simp only [Act.put, List.setIfInBounds_toArray, List.set_cons_zero, List.set_cons_succ, List.getElem_toArray, List.getElem_cons_zero, List.getElem_cons_succ]
                              refine wpAnyH_take (i := 2) (v := ?_) rfl (by kernel_rfl) (by kernel_rfl) (by kernel_rfl) (fun _ _ _ h => h) (Or.inl ⟨by rfl, ?_⟩) (by assumption) ?_
                              rotate_left 1
                              · intro wz hwz
                                go_simp
                                all_goals with_reducible rfl
                              simp only [Act.put, List.setIfInBounds_toArray, List.set_cons_zero, List.set_cons_succ, List.getElem_toArray, List.getElem_cons_zero, List.getElem_cons_succ]
                              refine wpAnyH_take (i := 3) (v := ?_) rfl (by kernel_rfl) (by kernel_rfl) (by kernel_rfl) (fun _ _ _ h => h) (Or.inl ⟨by rfl, ?_⟩) (by assumption) ?_
                              rotate_left 1
                              · intro wz hwz
                                have q0 := hwz.tick
                                go_simp
                                all_goals with_reducible rfl
                              simp only [Act.put, List.setIfInBounds_toArray, List.set_cons_zero, List.set_cons_succ, List.getElem_toArray, List.getElem_cons_zero, List.getElem_cons_succ]
                              refine wpAnyH_take (i := 4) (v := ?_) rfl (by kernel_rfl) (by kernel_rfl) (by kernel_rfl) (fun _ _ _ h => h) (Or.inl ⟨by rfl, ?_⟩) (by assumption) ?_
                              rotate_left 1
                              · intro wz hwz
                                go_simp
                                all_goals with_reducible rfl
                              simp only [Act.put, List.setIfInBounds_toArray, List.set_cons_zero, List.set_cons_succ, List.getElem_toArray, List.getElem_cons_zero, List.getElem_cons_succ]
                              refine wpAnyH_take (i := 5) (v := ?_) rfl (by kernel_rfl) (by kernel_rfl) (by kernel_rfl) (fun _ _ _ h => h) (Or.inl ⟨by rfl, ?_⟩) (by assumption) ?_
                              rotate_left 1
                              · intro wz hwz
                                go_simp
                                all_goals with_reducible rfl
                              simp only [Act.put, List.setIfInBounds_toArray, List.set_cons_zero, List.set_cons_succ, List.getElem_toArray, List.getElem_cons_zero, List.getElem_cons_succ]
                              refine wpAnyH_take (i := 6) (v := ?_) rfl (by kernel_rfl) (by kernel_rfl) (by kernel_rfl) (fun _ _ _ h => h) (Or.inl ⟨by rfl, ?_⟩) (by assumption) ?_
                              rotate_left 1
                              · intro wz hwz
                                have q0 := (hwz.bel.cell (p := ⟨b1, o1 + j, none⟩) hb1).trans HX1.out
                                go_simp
                                all_goals with_reducible rfl
                              simp only [Act.put, List.setIfInBounds_toArray, List.set_cons_zero, List.set_cons_succ, List.getElem_toArray, List.getElem_cons_zero, List.getElem_cons_succ]
                              refine wpAnyH_take (i := 7) (v := ?_) rfl (by kernel_rfl) (by kernel_rfl) (by kernel_rfl) (fun _ _ _ h => h) (Or.inl ⟨by rfl, ?_⟩) (by assumption) ?_
                              rotate_left 1
                              · intro wz hwz
                                go_simp
                                all_goals with_reducible rfl
                              simp only [Act.put, List.setIfInBounds_toArray, List.set_cons_zero, List.set_cons_succ, List.getElem_toArray, List.getElem_cons_zero, List.getElem_cons_succ]
                              refine wpAnyH_take (i := 8) (v := ?_) rfl (by kernel_rfl) (by kernel_rfl) (by kernel_rfl) (fun _ _ _ h => h) (Or.inl ⟨by rfl, ?_⟩) (by assumption) ?_
                              rotate_left 1
                              · intro wz hwz
                                go_simp
                                all_goals with_reducible rfl
                              simp only [Act.put, List.setIfInBounds_toArray, List.set_cons_zero, List.set_cons_succ, List.getElem_toArray, List.getElem_cons_zero, List.getElem_cons_succ]
                              refine wpAnyH_take (i := 9) (v := ?_) rfl (by kernel_rfl) (by kernel_rfl) (by kernel_rfl) (fun _ _ _ h => h) (Or.inl ⟨by rfl, ?_⟩) (by assumption) ?_
                              rotate_left 1
                              · intro wz hwz
                                go_simp
                                all_goals with_reducible rfl
                              simp only [Act.put, List.setIfInBounds_toArray, List.set_cons_zero, List.set_cons_succ, List.getElem_toArray, List.getElem_cons_zero, List.getElem_cons_succ]
                              refine wpAnyH_take (i := 10) (v := ?_) rfl (by kernel_rfl) (by kernel_rfl) (by kernel_rfl) (fun _ _ _ h => h) (Or.inl ⟨by rfl, ?_⟩) (by assumption) ?_
                              rotate_left 1
                              · intro wz hwz
                                obtain ⟨q0, q1, q2, q3, q4, q5, q6⟩ := HEE.out _ hwz
                                go_simp
                                all_goals with_reducible rfl
                              simp only [Act.put, List.setIfInBounds_toArray, List.set_cons_zero, List.set_cons_succ, List.getElem_toArray, List.getElem_cons_zero, List.getElem_cons_succ]
                              refine wpAnyH_take (i := 11) (v := ?_) rfl (by kernel_rfl) (by kernel_rfl) (by kernel_rfl) (fun _ _ _ h => h) (Or.inl ⟨by rfl, ?_⟩) (by assumption) ?_
                              rotate_left 1
                              · intro wz hwz
                                go_simp
                                all_goals with_reducible rfl
                              simp only [Act.put, List.setIfInBounds_toArray, List.set_cons_zero, List.set_cons_succ, List.getElem_toArray, List.getElem_cons_zero, List.getElem_cons_succ]
                              refine wpAnyH_take (i := 12) (v := ?_) rfl (by kernel_rfl) (by kernel_rfl) (by kernel_rfl) (fun _ _ _ h => h) (Or.inl ⟨by rfl, ?_⟩) (by assumption) ?_
                              rotate_left 1
                              · intro wz hwz
                                go_simp
                                all_goals with_reducible rfl
                              simp only [Act.put, List.setIfInBounds_toArray, List.set_cons_zero, List.set_cons_succ, List.getElem_toArray, List.getElem_cons_zero, List.getElem_cons_succ]
                              refine wpAnyH_ready (rs := [13]) (by kernel_rfl) (by simp) (AllReadyH.cons rfl (fun K hK => ?_) AllReadyH.nil)
                              refine step_store8 (by rfl) 58 _ _ (by rfl) g3 (a * 8) #[.int .i64 tk, .int .i64 ev.p, .int .i64 ev.t, .int .i64 ev.k, .int .i64 ev.d, .int .i64 ev.a, .int .i64 ev.b, .int .i64 ev.r] (by rfl) (by rfl) HTh.out size8 (all_oneCell_toArray (cs := Kp.list ⟨tk, ev⟩) (fun v hv => kpCells_one [⟨tk, ev⟩] v (by simpa [kpCells] using hv))) ?_
                              refine hK.out _ _ ?_ (fun hHeld => ?_)
                              · exact HO4'.out _ (grown_trans (grown_of_below (below_drewN (Below.refl _ _) 1) _) (setCells_grown g3 _ _ _))
                              clear hK K
                              refine wpAnyH_done (by kernel_rfl) ?_ _
                              generalize hW6 : World.setCells _ g3 (a * 8) _ = W6 at hHeld ⊢
                              have HP6 : Hid (W6.ownsRow w.heap.size 58 8 (.slice (some ⟨g3, 0, none⟩) (B.length + 1) c3) (B.length + 1) (kpCells (insL B ⟨tk, ev⟩))) := by rw [← hW6]; exact own_setDrew HPut.out
                              clear hW6 HPut HTh
                              have HM5 := hideIt hHeld
                              clear hHeld
                              go_wp2
                              go_roundw
                              case rel => exact ⟨j + 1, 10, insL B ⟨tk, ev⟩, by omega, by go_num, rfl, by rw [HBN.out], by rw [insL_len]; omega, by rw [insL_len]; exact HP6.out, HM5.out, Or.inr ⟨rfl, HN.out⟩⟩
                              case measure => simp [intOf]; omega
                          · have ha00 : a = 0 := by omega
                            have a0i : ¬ (0 : Int) < (a : Int) := by omega
                            have a0d : decide ((0 : Int) < (a : Int)) = false := decide_eq_false a0i
                            have a0dn : decide (0 < a) = false := decide_eq_false ha0
                            have HIa : Hid (insA tk B B.length = a) := by
                              show insA tk B B.length = a
                              rw [HIN.out, ha00]; unfold insA; rfl
                            clear ha00
                            go_wp2_with fail
                            go_quiet (fail)
                            have HIL : Hid (insL B ⟨tk, ev⟩ = B.take a ++ ⟨tk, ev⟩ :: B.drop a) := insL_at (x := ⟨tk, ev⟩) HIa.out
                            go_wp2_with (at_builtin; refine wpList_append_own _ rfl _ _ 53 rfl w.heap.size 58 i0 _ 8 64 Tryd.underlying53 hi hz0 hz1 hz2 rfl (by decide) _ _ _ rfl ((own_drewN HO2.out _).alloc _) ⟨W3.heap.size, 0, none⟩ 1 1 [.int .i64 0, .int .i64 0, .int .i64 0, .int .i64 0, .int .i64 0, .int .i64 0, .int .i64 0, .int .i64 0] rfl rfl ?b1 ?b2 ?b3 ?b4 ?b5 ?_)
                            case b1 =>
                              intro j' u hj'
                              exact new_at rfl (by simpa using hj')
                            case b2 => intro u hu; simp at hu; subst hu; rfl
                            case b3 => unfold maxLen; omega
                            case b4 => omega
                            case b5 => simp; omega
                            intro v3 w3 ho3 hg3 _
                            have ho4 : w3.ownsRow w.heap.size 58 8 v3 (B.length + 1) (kpCells (B ++ [⟨0, zeroE⟩])) := by rw [kpCells_snoc]; exact ho3
                            have hM3 : M2 w w3 S (.slice (some ⟨b1, o1, none⟩) s.tk.length c1) (.slice a2 s.ev.length c2) (.slice (some ⟨gw, 0, none⟩) s.ev.length cw) s.ev := ((HM2.out.below (below_drewN (Below.refl _ _) _)).below (below_alloc (Below.refl _ _) _)).turn ((own_drewN HO2.out _).alloc _) hg3
                            obtain ⟨g3, c3, rfl, hbg3, hgz3⟩ : ∃ g c, v3 = .slice (some ⟨g, 0, none⟩) (B.length + 1) c ∧ w.heap.size ≤ g ∧ g < w3.heap.size := by
                              rcases own_shapeK ho4 with ⟨_, h0⟩ | ⟨g, c, e, h1, h2⟩
                              · omega
                              · exact ⟨g, c, e, h1, h2⟩
                            have hc3 : B.length + 1 ≤ c3 := by
                              obtain ⟨_, ⟨e, _⟩ | ⟨g, cap, cur, e, _, _, h5, _⟩⟩ := ho4
                              · cases e
                              · injection e with _ _ e3; omega
                            have HO4 := hideIt ho4
                            have HM3 := hideIt hM3
                            have hz3 : W3.heap.size ≤ w3.heap.size := by have := hg3.size; simp at this; omega
                            clear ho3 ho4 hg3 hM3
                            go_wp2_with fail
                            have ha1 : (a : Int) + 1 ≤ (c3 : Int) := by omega
                            have ha0 : (0 : Int) ≤ (a : Int) + 1 := by omega
                            have ha2 : (a : Int) + 1 ≤ (B.length : Int) + 1 := by omega
                            have ha3 : (a : Int) ≤ (B.length : Int) + 1 := by omega
                            have haw : IntKind.i64.wrap ((a : Int) + 1) = (a : Int) + 1 := by rw [IntKind.wrap_i64]; omega
                            have hat : ((a : Int) + 1).toNat = a + 1 := by omega
                            have hca : ¬ c3 = a := by omega
                            obtain ⟨dpp, hdp⟩ : ∃ d, (if c3 = a + 1 then some (⟨g3, 0, none⟩ : Addr) else some ⟨g3, (a + 1) * 8, none⟩) = d := ⟨_, rfl⟩
                            refine wp_region_held_drew (S := fun _ => True) (by kernel_rfl) True.intro (fun hHeld => ?_)
                            refine wpAnyH_take (i := 0) (v := ?_) rfl (by kernel_rfl) (by kernel_rfl) (by kernel_rfl) (fun _ _ _ h => h) (Or.inl ⟨by rfl, ?_⟩) (by assumption) ?_
                            rotate_left 1
                            · intro wz hwz
                              go_simp
                              all_goals with_reducible rfl
                            simp only [Act.put, List.setIfInBounds_toArray, List.set_cons_zero, List.set_cons_succ, List.getElem_toArray, List.getElem_cons_zero]
                            refine wpAnyH_take (i := 1) (v := ?_) rfl (by kernel_rfl) (by kernel_rfl) (by kernel_rfl) (fun _ _ _ h => h) (Or.inl ⟨by rfl, ?_⟩) (by assumption) ?_
                            rotate_left 1
                            · intro wz hwz
                              go_simp
                              all_goals with_reducible rfl
                            simp only [Act.put, List.setIfInBounds_toArray, List.set_cons_zero, List.set_cons_succ, List.getElem_toArray, List.getElem_cons_zero, List.getElem_cons_succ]
                            refine wpAnyH_take (i := 2) (v := ?_) rfl (by kernel_rfl) (by kernel_rfl) (by kernel_rfl) (fun _ _ _ h => h) (Or.inl ⟨by rfl, ?_⟩) (by assumption) ?_
                            rotate_left 1
                            · intro wz hwz
                              go_simp
                              all_goals with_reducible rfl
                            simp only [Act.put, List.setIfInBounds_toArray, List.set_cons_zero, List.set_cons_succ, List.getElem_toArray, List.getElem_cons_zero, List.getElem_cons_succ]
                            refine wpAnyH_take (i := 3) (v := ?_) rfl (by kernel_rfl) (by kernel_rfl) (by kernel_rfl) (fun _ _ _ h => h) (Or.inl ⟨by rfl, ?_⟩) (by assumption) ?_
                            rotate_left 1
                            · intro wz hwz
                              go_simp
                              all_goals with_reducible rfl
                            simp only [Act.put, List.setIfInBounds_toArray, List.set_cons_zero, List.set_cons_succ, List.getElem_toArray, List.getElem_cons_zero, List.getElem_cons_succ]
                            refine wpAnyH_take (i := 4) (v := ?_) rfl (by kernel_rfl) (by kernel_rfl) (by kernel_rfl) (fun _ _ _ h => h) (Or.inl ⟨by rfl, ?_⟩) (by assumption) ?_
                            rotate_left 1
                            · intro wz hwz
                              go_simp
                              all_goals with_reducible rfl
                            simp only [Act.put, List.setIfInBounds_toArray, List.set_cons_zero, List.set_cons_succ, List.getElem_toArray, List.getElem_cons_zero, List.getElem_cons_succ]
                            refine wpAnyH_take (i := 5) (v := ?_) rfl (by kernel_rfl) (by kernel_rfl) (by kernel_rfl) (fun _ _ _ h => h) (Or.inl ⟨by rfl, ?_⟩) (by assumption) ?_
                            rotate_left 1
                            · intro wz hwz
                              go_simp
                              all_goals with_reducible rfl
                            simp only [Act.put, List.setIfInBounds_toArray, List.set_cons_zero, List.set_cons_succ, List.getElem_toArray, List.getElem_cons_zero, List.getElem_cons_succ]
                            refine wpAnyH_take (i := 6) (v := ?_) rfl (by kernel_rfl) (by kernel_rfl) (by kernel_rfl) (fun _ _ _ h => h) (Or.inl ⟨by rfl, ?_⟩) (by assumption) ?_
                            rotate_left 1
                            · intro wz hwz
                              go_simp
                              all_goals with_reducible rfl
                            simp only [Act.put, List.setIfInBounds_toArray, List.set_cons_zero, List.set_cons_succ, List.getElem_toArray, List.getElem_cons_zero, List.getElem_cons_succ]
                            refine wpAnyH_ready (rs := [7]) (by kernel_rfl) (by simp) (AllReadyH.cons rfl (fun K hK => ?_) AllReadyH.nil)
                            refine step_copy_ins (by rfl) _ _ (by rfl) _ _ _ _ _ _ (by rfl) (by rfl) w.heap.size g3 c3 B ⟨0, zeroE⟩ a (own_drewN HO4.out 1) hal (by omega) (by omega) (fun hlt => ⟨by first | rfl | (rw [← hdp, if_neg (by omega)]) | (rw [if_neg (by omega)]), by first | rfl | (rw [if_neg (by omega)])⟩) ?_
                            refine hK.out _ _ ?_ (fun hHeld => ?_)
                            · exact True.intro
                            clear hK K
                            refine wpAnyH_done (by kernel_rfl) ?_ _
                            generalize hW4 : World.setCells _ g3 ((a + 1) * 8) (kpCells (B.drop a)) = W4
                            have hg4 : w3.grownBy W4 (some g3) := by rw [← hW4]; exact grown_trans (grown_of_below (below_drewN (Below.refl _ _) 1) _) (setCells_grown g3 _ _ _)
                            have hM4 : M2 w W4 S (.slice (some ⟨b1, o1, none⟩) s.tk.length c1) (.slice a2 s.ev.length c2) (.slice (some ⟨gw, 0, none⟩) s.ev.length cw) s.ev := HM3.out.turn HO4.out hg4
                            have hobj4 : ∃ cur, W4.heap[g3]? = some (.cells cur 58 (0, 0)) ∧ (B.length + 1) * 8 ≤ cur.size := by
                              obtain ⟨_, ⟨e, _⟩ | ⟨g, cap, cur, e, _, hh, h1, _, h3, _⟩⟩ := own_drewN HO4.out 1
                              · cases e
                              · injection e with e1 _ e3
                                injection e1 with e1
                                injection e1 with e1 _
                                subst e1
                                have hcs : (kpCells (B.drop a)).length = (B.length - a) * 8 := by rw [kpCells_len, List.length_drop]
                                refine ⟨_, by rw [← hW4]; exact setCells_row g3 (kpCells (B.drop a)) ((a + 1) * 8) _ cur hh (by rw [hcs, h3]; omega), ?_⟩
                                rw [List.size_toArray, overL_len (by rw [hcs]; simp; omega)]
                                simp; omega
                            have HPut : Hid ((W4.setCells g3 (a * 8) (Kp.list ⟨tk, ev⟩)).ownsRow w.heap.size 58 8 (.slice (some ⟨g3, 0, none⟩) (B.length + 1) c3) (B.length + 1) (kpCells (insL B ⟨tk, ev⟩))) := by
                              rw [HIL.out, ← hW4]
                              exact row_put (own_drewN HO4.out 1) hal
                            obtain ⟨cur4, hobj4, hcur4⟩ := hobj4
                            have HTh : Hid (W4.drew.there g3 (a * 8) 8) := fun j hj => ⟨by obtain ⟨u, e⟩ := there_of (W := W4.drew) hobj4 (i := a * 8 + j) (by omega); rw [e]; rfl, fz_of (W := W4.drew) hobj4 _⟩
                            have HO4' : Hid (∀ W5, W4.grownBy W5 (some g3) → M2 w W5 S (.slice (some ⟨b1, o1, none⟩) s.tk.length c1) (.slice a2 s.ev.length c2) (.slice (some ⟨gw, 0, none⟩) s.ev.length cw) s.ev) := fun W5 hg5 => HM3.out.turn HO4.out (grown_trans hg4 hg5)
                            have HM4 := hideIt hM4
                            have hz4 : g3 < W4.heap.size := Nat.lt_of_lt_of_le hgz3 hg4.size
                            clear hW4 hg4 hM4 hobj4 hcur4 HM3 HO4 hHeld ha0 ha2 ha3 haw hat hca hdp
                            go_wp2_with fail
                            have hab : (a : Int) < (B.length : Int) + 1 := by omega
                            refine wp_region_held_drew (S := fun W => M2 w W S (.slice (some ⟨b1, o1, none⟩) s.tk.length c1) (.slice a2 s.ev.length c2) (.slice (some ⟨gw, 0, none⟩) s.ev.length cw) s.ev) (by kernel_rfl) (HM4.out.below (below_drewN (Below.refl _ _) 1)) (fun hHeld => ?_)
                            refine wpAnyH_take (i := 0) (v := ?_) rfl (by kernel_rfl) (by kernel_rfl) (by kernel_rfl) (fun _ _ _ h => h) (Or.inl ⟨by rfl, ?_⟩) (by assumption) ?_
                            rotate_left 1
                            · intro wz hwz
                              go_simp
                              all_goals with_reducible rfl
                            simp only [Act.put, List.setIfInBounds_toArray, List.getElem_toArray, List.getElem_cons_zero]
                            refine wpAnyH_take (i := 1) (v := ?_) rfl (by kernel_rfl) (by kernel_rfl) (by kernel_rfl) (fun _ _ _ h => h) (Or.inl ⟨by rfl, ?_⟩) (by assumption) ?_
                            rotate_left 1
                            · intro wz hwz
                              go_simp
                              all_goals with_reducible rfl
                            simp only [Act.put, List.setIfInBounds_toArray, List.set_cons_zero, List.set_cons_succ, List.getElem_toArray, List.getElem_cons_zero, List.getElem_cons_succ]
                            refine wpAnyH_take (i := 2) (v := ?_) rfl (by kernel_rfl) (by kernel_rfl) (by kernel_rfl) (fun _ _ _ h => h) (Or.inl ⟨by rfl, ?_⟩) (by assumption) ?_
                            rotate_left 1
                            · intro wz hwz
                              go_simp
                              all_goals with_reducible rfl
                            simp only [Act.put, List.setIfInBounds_toArray, List.set_cons_zero, List.set_cons_succ, List.getElem_toArray, List.getElem_cons_zero, List.getElem_cons_succ]
                            refine wpAnyH_take (i := 3) (v := ?_) rfl (by kernel_rfl) (by kernel_rfl) (by kernel_rfl) (fun _ _ _ h => h) (Or.inl ⟨by rfl, ?_⟩) (by assumption) ?_
                            rotate_left 1
                            · intro wz hwz
                              have q0 := hwz.tick
                              go_simp
                              all_goals with_reducible rfl
                            simp only [Act.put, List.setIfInBounds_toArray, List.set_cons_zero, List.set_cons_succ, List.getElem_toArray, List.getElem_cons_zero, List.getElem_cons_succ]
                            refine wpAnyH_take (i := 4) (v := ?_) rfl (by kernel_rfl) (by kernel_rfl) (by kernel_rfl) (fun _ _ _ h => h) (Or.inl ⟨by rfl, ?_⟩) (by assumption) ?_
                            rotate_left 1
                            · intro wz hwz
                              go_simp
                              all_goals with_reducible rfl
                            simp only [Act.put, List.setIfInBounds_toArray, List.set_cons_zero, List.set_cons_succ, List.getElem_toArray, List.getElem_cons_zero, List.getElem_cons_succ]
                            refine wpAnyH_take (i := 5) (v := ?_) rfl (by kernel_rfl) (by kernel_rfl) (by kernel_rfl) (fun _ _ _ h => h) (Or.inl ⟨by rfl, ?_⟩) (by assumption) ?_
                            rotate_left 1
                            · intro wz hwz
                              go_simp
                              all_goals with_reducible rfl
                            simp only [Act.put, List.setIfInBounds_toArray, List.set_cons_zero, List.set_cons_succ, List.getElem_toArray, List.getElem_cons_zero, List.getElem_cons_succ]
                            refine wpAnyH_take (i := 6) (v := ?_) rfl (by kernel_rfl) (by kernel_rfl) (by kernel_rfl) (fun _ _ _ h => h) (Or.inl ⟨by rfl, ?_⟩) (by assumption) ?_
                            rotate_left 1
                            · intro wz hwz
                              have q0 := (hwz.bel.cell (p := ⟨b1, o1 + j, none⟩) hb1).trans HX1.out
                              go_simp
                              all_goals with_reducible rfl
                            simp only [Act.put, List.setIfInBounds_toArray, List.set_cons_zero, List.set_cons_succ, List.getElem_toArray, List.getElem_cons_zero, List.getElem_cons_succ]
                            refine wpAnyH_take (i := 7) (v := ?_) rfl (by kernel_rfl) (by kernel_rfl) (by kernel_rfl) (fun _ _ _ h => h) (Or.inl ⟨by rfl, ?_⟩) (by assumption) ?_
                            rotate_left 1
                            · intro wz hwz
                              go_simp
                              all_goals with_reducible rfl
                            simp only [Act.put, List.setIfInBounds_toArray, List.set_cons_zero, List.set_cons_succ, List.getElem_toArray, List.getElem_cons_zero, List.getElem_cons_succ]
                            refine wpAnyH_take (i := 8) (v := ?_) rfl (by kernel_rfl) (by kernel_rfl) (by kernel_rfl) (fun _ _ _ h => h) (Or.inl ⟨by rfl, ?_⟩) (by assumption) ?_
                            rotate_left 1
                            · intro wz hwz
                              go_simp
                              all_goals with_reducible rfl
                            simp only [Act.put, List.setIfInBounds_toArray, List.set_cons_zero, List.set_cons_succ, List.getElem_toArray, List.getElem_cons_zero, List.getElem_cons_succ]
                            refine wpAnyH_take (i := 9) (v := ?_) rfl (by kernel_rfl) (by kernel_rfl) (by kernel_rfl) (fun _ _ _ h => h) (Or.inl ⟨by rfl, ?_⟩) (by assumption) ?_
                            rotate_left 1
                            · intro wz hwz
                              go_simp
                              all_goals with_reducible rfl
                            simp only [Act.put, List.setIfInBounds_toArray, List.set_cons_zero, List.set_cons_succ, List.getElem_toArray, List.getElem_cons_zero, List.getElem_cons_succ]
                            refine wpAnyH_take (i := 10) (v := ?_) rfl (by kernel_rfl) (by kernel_rfl) (by kernel_rfl) (fun _ _ _ h => h) (Or.inl ⟨by rfl, ?_⟩) (by assumption) ?_
                            rotate_left 1
                            · intro wz hwz
                              obtain ⟨q0, q1, q2, q3, q4, q5, q6⟩ := HEE.out _ hwz
                              go_simp
                              all_goals with_reducible rfl
                            simp only [Act.put, List.setIfInBounds_toArray, List.set_cons_zero, List.set_cons_succ, List.getElem_toArray, List.getElem_cons_zero, List.getElem_cons_succ]
                            refine wpAnyH_take (i := 11) (v := ?_) rfl (by kernel_rfl) (by kernel_rfl) (by kernel_rfl) (fun _ _ _ h => h) (Or.inl ⟨by rfl, ?_⟩) (by assumption) ?_
                            rotate_left 1
                            · intro wz hwz
                              go_simp
                              all_goals with_reducible rfl
                            simp only [Act.put, List.setIfInBounds_toArray, List.set_cons_zero, List.set_cons_succ, List.getElem_toArray, List.getElem_cons_zero, List.getElem_cons_succ]
                            refine wpAnyH_take (i := 12) (v := ?_) rfl (by kernel_rfl) (by kernel_rfl) (by kernel_rfl) (fun _ _ _ h => h) (Or.inl ⟨by rfl, ?_⟩) (by assumption) ?_
                            rotate_left 1
                            · intro wz hwz
                              go_simp
                              all_goals with_reducible rfl
                            simp only [Act.put, List.setIfInBounds_toArray, List.set_cons_zero, List.set_cons_succ, List.getElem_toArray, List.getElem_cons_zero, List.getElem_cons_succ]
                            refine wpAnyH_ready (rs := [13]) (by kernel_rfl) (by simp) (AllReadyH.cons rfl (fun K hK => ?_) AllReadyH.nil)
                            refine step_store8 (by rfl) 58 _ _ (by rfl) g3 (a * 8) #[.int .i64 tk, .int .i64 ev.p, .int .i64 ev.t, .int .i64 ev.k, .int .i64 ev.d, .int .i64 ev.a, .int .i64 ev.b, .int .i64 ev.r] (by rfl) (by rfl) HTh.out size8 (all_oneCell_toArray (cs := Kp.list ⟨tk, ev⟩) (fun v hv => kpCells_one [⟨tk, ev⟩] v (by simpa [kpCells] using hv))) ?_
                            refine hK.out _ _ ?_ (fun hHeld => ?_)
                            · exact HO4'.out _ (grown_trans (grown_of_below (below_drewN (Below.refl _ _) 1) _) (setCells_grown g3 _ _ _))
                            clear hK K
                            refine wpAnyH_done (by kernel_rfl) ?_ _
                            generalize hW6 : World.setCells _ g3 (a * 8) _ = W6 at hHeld ⊢
                            have HP6 : Hid (W6.ownsRow w.heap.size 58 8 (.slice (some ⟨g3, 0, none⟩) (B.length + 1) c3) (B.length + 1) (kpCells (insL B ⟨tk, ev⟩))) := by rw [← hW6]; exact own_setDrew HPut.out
                            clear hW6 HPut HTh
                            have HM5 := hideIt hHeld
                            clear hHeld
                            go_wp2
                            go_roundw
                            case rel => exact ⟨j + 1, 10, insL B ⟨tk, ev⟩, by omega, by go_num, rfl, by rw [HBN.out], by rw [insL_len]; omega, by rw [insL_len]; exact HP6.out, HM5.out, Or.inr ⟨rfl, HN.out⟩⟩
                            case measure => simp [intOf]; omega
                    · have j0i : ¬ (0 : Int) < (j : Int) := by omega
                      have j0d : decide ((0 : Int) < (j : Int)) = false := decide_eq_false j0i
                      have j0dn : decide (0 < j) = false := decide_eq_false hj0
                      have HN := hideIt (HU0.out (by omega))
                      clear HUN HC1 HU0
                      generalize hge : s.ev[j] = ev at *
                      clear hge
                      generalize hgt0 : s.tk[j] = tk at *
                      clear hgt0
                      go_wp2_with fail
                      go_quiet (fail)
                      clear x1w p0w j0d j0dn j0i
                      go_wp2
                      go_loopw [9] (fun x wq => ∃ (a n : Nat), a ≤ B.length ∧ x = .int .i64 a ∧ insA tk B B.length = insA tk B a ∧ wq = W3.drewN n) (fun x _ => (intOf x).toNat)
                      case atStart => exact ⟨B.length, _, Nat.le_refl _, rfl, rfl, rfl⟩
                      case round =>
                        obtain ⟨a, n, hal, rfl, hins, rfl⟩ := hrel
                        have HIN := hideIt hins
                        clear hins
                        by_cases ha0 : 0 < a
                        · have hb0 : 0 < B.length := by omega
                          rcases own_shapeK HO2.out with ⟨eq1, hn0⟩ | ⟨gB, cB, eq1, hbB, hgB⟩
                          · omega
                          injection eq1 with eq1 eqb eqc
                          clear eqb eqc
                          subst eq1
                          obtain ⟨q, hq⟩ : ∃ q, q + 1 = a := ⟨a - 1, by omega⟩
                          have hqB : q < B.length := by omega
                          have hks := own_kp0 HO2.out hqB
                          have HST2 : Hid (insA tk B a = if B[q].n > tk then insA tk B q else a) := by
                            show insA tk B a = if B[q].n > tk then insA tk B q else a
                            rw [← hq]; exact insA_q hqB
                          have a1i : (1 : Int) ≤ (a : Int) := by omega
                          have a0i : (0 : Int) < (a : Int) := by omega
                          have a0d : decide ((0 : Int) < (a : Int)) = true := decide_eq_true a0i
                          have a0dn : decide (0 < a) = true := decide_eq_true ha0
                          have aBi : (a : Int) ≤ (B.length : Int) := by omega
                          have hwq : IntKind.i64.wrap ((a : Int) - 1) = (q : Int) := by rw [IntKind.wrap_i64]; omega
                          have HQA := hideIt hq
                          clear hq
                          have x1w := (HM2.out.bel.cell (p := ⟨b1, o1 + j, none⟩) hb1).trans HX1.out
                          have p0w := HM2.out.tick
                          have hgBz : gB < W3.heap.size := hgB
                          by_cases hgt : B[q].n > tk
                          · have hgt' : tk < B[q].n := hgt
                            rw [if_pos hgt] at HST2
                            have HR3 : Hid (insA tk B B.length = insA tk B q) := by show insA tk B B.length = insA tk B q; rw [HIN.out, HST2.out]
                            generalize B[q].n = bn at *
                            go_wp2_with fail
                            go_quiet (fail)
                            go_wp2
                            go_roundw
                            case rel => exact ⟨q, _, by omega, by first | rfl | (exact val_int (by have := HQA.out; omega)), HR3.out, rfl⟩
                            case measure => have := HQA.out; simp [intOf]; omega
                          · have hgt' : ¬ tk < B[q].n := hgt
                            rw [if_neg hgt] at HST2
                            have HIa : Hid (insA tk B B.length = a) := by show insA tk B B.length = a; rw [HIN.out, HST2.out]
                            generalize B[q].n = bn at *
                            go_wp2_with fail
                            go_quiet (fail)
                            have HIL : Hid (insL B ⟨tk, ev⟩ = B.take a ++ ⟨tk, ev⟩ :: B.drop a) := insL_at (x := ⟨tk, ev⟩) HIa.out
                            go_wp2_with (at_builtin; refine wpList_append_own _ rfl _ _ 53 rfl w.heap.size 58 i0 _ 8 64 Tryd.underlying53 hi hz0 hz1 hz2 rfl (by decide) _ _ _ rfl ((own_drewN HO2.out _).alloc _) ⟨W3.heap.size, 0, none⟩ 1 1 [.int .i64 0, .int .i64 0, .int .i64 0, .int .i64 0, .int .i64 0, .int .i64 0, .int .i64 0, .int .i64 0] rfl rfl ?b1 ?b2 ?b3 ?b4 ?b5 ?_)
                            case b1 =>
                              intro j' u hj'
                              exact new_at rfl (by simpa using hj')
                            case b2 => intro u hu; simp at hu; subst hu; rfl
                            case b3 => unfold maxLen; omega
                            case b4 => omega
                            case b5 => simp; omega
                            intro v3 w3 ho3 hg3 _
                            have ho4 : w3.ownsRow w.heap.size 58 8 v3 (B.length + 1) (kpCells (B ++ [⟨0, zeroE⟩])) := by rw [kpCells_snoc]; exact ho3
                            have hM3 : M2 w w3 S (.slice (some ⟨b1, o1, none⟩) s.tk.length c1) (.slice a2 s.ev.length c2) (.slice (some ⟨gw, 0, none⟩) s.ev.length cw) s.ev := ((HM2.out.below (below_drewN (Below.refl _ _) _)).below (below_alloc (Below.refl _ _) _)).turn ((own_drewN HO2.out _).alloc _) hg3
                            obtain ⟨g3, c3, rfl, hbg3, hgz3⟩ : ∃ g c, v3 = .slice (some ⟨g, 0, none⟩) (B.length + 1) c ∧ w.heap.size ≤ g ∧ g < w3.heap.size := by
                              rcases own_shapeK ho4 with ⟨_, h0⟩ | ⟨g, c, e, h1, h2⟩
                              · omega
                              · exact ⟨g, c, e, h1, h2⟩
                            have hc3 : B.length + 1 ≤ c3 := by
                              obtain ⟨_, ⟨e, _⟩ | ⟨g, cap, cur, e, _, _, h5, _⟩⟩ := ho4
                              · cases e
                              · injection e with _ _ e3; omega
                            have HO4 := hideIt ho4
                            have HM3 := hideIt hM3
                            have hz3 : W3.heap.size ≤ w3.heap.size := by have := hg3.size; simp at this; omega
                            clear ho3 ho4 hg3 hM3
                            go_wp2_with fail
                            have ha1 : (a : Int) + 1 ≤ (c3 : Int) := by omega
                            have ha0 : (0 : Int) ≤ (a : Int) + 1 := by omega
                            have ha2 : (a : Int) + 1 ≤ (B.length : Int) + 1 := by omega
                            have ha3 : (a : Int) ≤ (B.length : Int) + 1 := by omega
                            have haw : IntKind.i64.wrap ((a : Int) + 1) = (a : Int) + 1 := by rw [IntKind.wrap_i64]; omega
                            have hat : ((a : Int) + 1).toNat = a + 1 := by omega
                            have hca : ¬ c3 = a := by omega
                            obtain ⟨dpp, hdp⟩ : ∃ d, (if c3 = a + 1 then some (⟨g3, 0, none⟩ : Addr) else some ⟨g3, (a + 1) * 8, none⟩) = d := ⟨_, rfl⟩
                            refine wp_region_held_drew (S := fun _ => True) (by kernel_rfl) True.intro (fun hHeld => ?_)
                            refine wpAnyH_take (i := 0) (v := ?_) rfl (by kernel_rfl) (by kernel_rfl) (by kernel_rfl) (fun _ _ _ h => h) (Or.inl ⟨by rfl, ?_⟩) (by assumption) ?_
                            rotate_left 1
                            · intro wz hwz
                              go_simp
                              all_goals with_reducible rfl
                            simp only [Act.put, List.setIfInBounds_toArray, List.set_cons_zero, List.set_cons_succ, List.getElem_toArray, List.getElem_cons_zero]
                            refine wpAnyH_take (i := 1) (v := ?_) rfl (by kernel_rfl) (by kernel_rfl) (by kernel_rfl) (fun _ _ _ h => h) (Or.inl ⟨by rfl, ?_⟩) (by assumption) ?_
                            rotate_left 1
                            · intro wz hwz
                              go_simp
                              all_goals with_reducible rfl
                            simp only [Act.put, List.setIfInBounds_toArray, List.set_cons_zero, List.set_cons_succ, List.getElem_toArray, List.getElem_cons_zero, List.getElem_cons_succ]
                            refine wpAnyH_take (i := 2) (v := ?_) rfl (by kernel_rfl) (by kernel_rfl) (by kernel_rfl) (fun _ _ _ h => h) (Or.inl ⟨by rfl, ?_⟩) (by assumption) ?_
                            rotate_left 1
                            · intro wz hwz
                              go_simp
                              all_goals with_reducible rfl
                            simp only [Act.put, List.setIfInBounds_toArray, List.set_cons_zero, List.set_cons_succ, List.getElem_toArray, List.getElem_cons_zero, List.getElem_cons_succ]
                            refine wpAnyH_take (i := 3) (v := ?_) rfl (by kernel_rfl) (by kernel_rfl) (by kernel_rfl) (fun _ _ _ h => h) (Or.inl ⟨by rfl, ?_⟩) (by assumption) ?_
                            rotate_left 1
                            · intro wz hwz
                              go_simp
                              all_goals with_reducible rfl
                            simp only [Act.put, List.setIfInBounds_toArray, List.set_cons_zero, List.set_cons_succ, List.getElem_toArray, List.getElem_cons_zero, List.getElem_cons_succ]
                            refine wpAnyH_take (i := 4) (v := ?_) rfl (by kernel_rfl) (by kernel_rfl) (by kernel_rfl) (fun _ _ _ h => h) (Or.inl ⟨by rfl, ?_⟩) (by assumption) ?_
                            rotate_left 1
                            · intro wz hwz
                              go_simp
                              all_goals with_reducible rfl
                            simp only [Act.put, List.setIfInBounds_toArray, List.set_cons_zero, List.set_cons_succ, List.getElem_toArray, List.getElem_cons_zero, List.getElem_cons_succ]
                            refine wpAnyH_take (i := 5) (v := ?_) rfl (by kernel_rfl) (by kernel_rfl) (by kernel_rfl) (fun _ _ _ h => h) (Or.inl ⟨by rfl, ?_⟩) (by assumption) ?_
                            rotate_left 1
                            · intro wz hwz
                              go_simp
                              all_goals with_reducible rfl
                            simp only [Act.put, List.setIfInBounds_toArray, List.set_cons_zero, List.set_cons_succ, List.getElem_toArray, List.getElem_cons_zero, List.getElem_cons_succ]
                            refine wpAnyH_take (i := 6) (v := ?_) rfl (by kernel_rfl) (by kernel_rfl) (by kernel_rfl) (fun _ _ _ h => h) (Or.inl ⟨by rfl, ?_⟩) (by assumption) ?_
                            rotate_left 1
                            · intro wz hwz
                              go_simp
                              all_goals with_reducible rfl
                            simp only [Act.put, List.setIfInBounds_toArray, List.set_cons_zero, List.set_cons_succ, List.getElem_toArray, List.getElem_cons_zero, List.getElem_cons_succ]
                            refine wpAnyH_ready (rs := [7]) (by kernel_rfl) (by simp) (AllReadyH.cons rfl (fun K hK => ?_) AllReadyH.nil)
                            refine step_copy_ins (by rfl) _ _ (by rfl) _ _ _ _ _ _ (by rfl) (by rfl) w.heap.size g3 c3 B ⟨0, zeroE⟩ a (own_drewN HO4.out 1) hal (by omega) (by omega) (fun hlt => ⟨by first | rfl | (rw [← hdp, if_neg (by omega)]) | (rw [if_neg (by omega)]), by first | rfl | (rw [if_neg (by omega)])⟩) ?_
                            refine hK.out _ _ ?_ (fun hHeld => ?_)
                            · exact True.intro
                            clear hK K
                            refine wpAnyH_done (by kernel_rfl) ?_ _
                            generalize hW4 : World.setCells _ g3 ((a + 1) * 8) (kpCells (B.drop a)) = W4
                            have hg4 : w3.grownBy W4 (some g3) := by rw [← hW4]; exact grown_trans (grown_of_below (below_drewN (Below.refl _ _) 1) _) (setCells_grown g3 _ _ _)
                            have hM4 : M2 w W4 S (.slice (some ⟨b1, o1, none⟩) s.tk.length c1) (.slice a2 s.ev.length c2) (.slice (some ⟨gw, 0, none⟩) s.ev.length cw) s.ev := HM3.out.turn HO4.out hg4
                            have hobj4 : ∃ cur, W4.heap[g3]? = some (.cells cur 58 (0, 0)) ∧ (B.length + 1) * 8 ≤ cur.size := by
                              obtain ⟨_, ⟨e, _⟩ | ⟨g, cap, cur, e, _, hh, h1, _, h3, _⟩⟩ := own_drewN HO4.out 1
                              · cases e
                              · injection e with e1 _ e3
                                injection e1 with e1
                                injection e1 with e1 _
                                subst e1
                                have hcs : (kpCells (B.drop a)).length = (B.length - a) * 8 := by rw [kpCells_len, List.length_drop]
                                refine ⟨_, by rw [← hW4]; exact setCells_row g3 (kpCells (B.drop a)) ((a + 1) * 8) _ cur hh (by rw [hcs, h3]; omega), ?_⟩
                                rw [List.size_toArray, overL_len (by rw [hcs]; simp; omega)]
                                simp; omega
                            have HPut : Hid ((W4.setCells g3 (a * 8) (Kp.list ⟨tk, ev⟩)).ownsRow w.heap.size 58 8 (.slice (some ⟨g3, 0, none⟩) (B.length + 1) c3) (B.length + 1) (kpCells (insL B ⟨tk, ev⟩))) := by
                              rw [HIL.out, ← hW4]
                              exact row_put (own_drewN HO4.out 1) hal
                            obtain ⟨cur4, hobj4, hcur4⟩ := hobj4
                            have HTh : Hid (W4.drew.there g3 (a * 8) 8) := fun j hj => ⟨by obtain ⟨u, e⟩ := there_of (W := W4.drew) hobj4 (i := a * 8 + j) (by omega); rw [e]; rfl, fz_of (W := W4.drew) hobj4 _⟩
                            have HO4' : Hid (∀ W5, W4.grownBy W5 (some g3) → M2 w W5 S (.slice (some ⟨b1, o1, none⟩) s.tk.length c1) (.slice a2 s.ev.length c2) (.slice (some ⟨gw, 0, none⟩) s.ev.length cw) s.ev) := fun W5 hg5 => HM3.out.turn HO4.out (grown_trans hg4 hg5)
                            have HM4 := hideIt hM4
                            have hz4 : g3 < W4.heap.size := Nat.lt_of_lt_of_le hgz3 hg4.size
                            clear hW4 hg4 hM4 hobj4 hcur4 HM3 HO4 hHeld ha0 ha2 ha3 haw hat hca hdp
                            go_wp2_with fail
                            have hab : (a : Int) < (B.length : Int) + 1 := by omega
                            refine wp_region_held_drew (S := fun W => M2 w W S (.slice (some ⟨b1, o1, none⟩) s.tk.length c1) (.slice a2 s.ev.length c2) (.slice (some ⟨gw, 0, none⟩) s.ev.length cw) s.ev) (by kernel_rfl) (HM4.out.below (below_drewN (Below.refl _ _) 1)) (fun hHeld => ?_)
                            refine wpAnyH_take (i := 0) (v := ?_) rfl (by kernel_rfl) (by kernel_rfl) (by kernel_rfl) (fun _ _ _ h => h) (Or.inl ⟨by rfl, ?_⟩) (by assumption) ?_
                            rotate_left 1
                            · intro wz hwz
                              go_simp
                              all_goals with_reducible rfl
                            simp only [Act.put, List.setIfInBounds_toArray, List.getElem_toArray, List.getElem_cons_zero]
                            refine wpAnyH_take (i := 1) (v := ?_) rfl (by kernel_rfl) (by kernel_rfl) (by kernel_rfl) (fun _ _ _ h => h) (Or.inl ⟨by rfl, ?_⟩) (by assumption) ?_
                            rotate_left 1
                            · intro wz hwz
                              go_simp
                              all_goals with_reducible rfl
                            simp only [Act.put, List.setIfInBounds_toArray, List.set_cons_zero, List.set_cons_succ, List.getElem_toArray, List.getElem_cons_zero, List.getElem_cons_succ]
                            refine wpAnyH_take (i := 2) (v := ?_) rfl (by kernel_rfl) (by kernel_rfl) (by kernel_rfl) (fun _ _ _ h => h) (Or.inl ⟨by rfl, ?_⟩) (by assumption) ?_
                            rotate_left 1
                            · intro wz hwz
                              go_simp
                              all_goals with_reducible rfl
                            simp only [Act.put, List.setIfInBounds_toArray, List.set_cons_zero, List.set_cons_succ, List.getElem_toArray, List.getElem_cons_zero, List.getElem_cons_succ]
                            refine wpAnyH_take (i := 3) (v := ?_) rfl (by kernel_rfl) (by kernel_rfl) (by kernel_rfl) (fun _ _ _ h => h) (Or.inl ⟨by rfl, ?_⟩) (by assumption) ?_
                            rotate_left 1
                            · intro wz hwz
                              have q0 := hwz.tick
                              go_simp
                              all_goals with_reducible rfl
                            simp only [Act.put, List.setIfInBounds_toArray, List.set_cons_zero, List.set_cons_succ, List.getElem_toArray, List.getElem_cons_zero, List.getElem_cons_succ]
                            refine wpAnyH_take (i := 4) (v := ?_) rfl (by kernel_rfl) (by kernel_rfl) (by kernel_rfl) (fun _ _ _ h => h) (Or.inl ⟨by rfl, ?_⟩) (by assumption) ?_
                            rotate_left 1
                            · intro wz hwz
                              go_simp
                              all_goals with_reducible rfl
                            simp only [Act.put, List.setIfInBounds_toArray, List.set_cons_zero, List.set_cons_succ, List.getElem_toArray, List.getElem_cons_zero, List.getElem_cons_succ]
                            refine wpAnyH_take (i := 5) (v := ?_) rfl (by kernel_rfl) (by kernel_rfl) (by kernel_rfl) (fun _ _ _ h => h) (Or.inl ⟨by rfl, ?_⟩) (by assumption) ?_
                            rotate_left 1
                            · intro wz hwz
                              go_simp
                              all_goals with_reducible rfl
                            simp only [Act.put, List.setIfInBounds_toArray, List.set_cons_zero, List.set_cons_succ, List.getElem_toArray, List.getElem_cons_zero, List.getElem_cons_succ]
                            refine wpAnyH_take (i := 6) (v := ?_) rfl (by kernel_rfl) (by kernel_rfl) (by kernel_rfl) (fun _ _ _ h => h) (Or.inl ⟨by rfl, ?_⟩) (by assumption) ?_
                            rotate_left 1
                            · intro wz hwz
                              have q0 := (hwz.bel.cell (p := ⟨b1, o1 + j, none⟩) hb1).trans HX1.out
                              go_simp
                              all_goals with_reducible rfl
                            simp only [Act.put, List.setIfInBounds_toArray, List.set_cons_zero, List.set_cons_succ, List.getElem_toArray, List.getElem_cons_zero, List.getElem_cons_succ]
                            refine wpAnyH_take (i := 7) (v := ?_) rfl (by kernel_rfl) (by kernel_rfl) (by kernel_rfl) (fun _ _ _ h => h) (Or.inl ⟨by rfl, ?_⟩) (by assumption) ?_
                            rotate_left 1
                            · intro wz hwz
                              go_simp
                              all_goals with_reducible rfl
                            simp only [Act.put, List.setIfInBounds_toArray, List.set_cons_zero, List.set_cons_succ, List.getElem_toArray, List.getElem_cons_zero, List.getElem_cons_succ]
                            refine wpAnyH_take (i := 8) (v := ?_) rfl (by kernel_rfl) (by kernel_rfl) (by kernel_rfl) (fun _ _ _ h => h) (Or.inl ⟨by rfl, ?_⟩) (by assumption) ?_
                            rotate_left 1
                            · intro wz hwz
                              go_simp
                              all_goals with_reducible rfl
                            simp only [Act.put, List.setIfInBounds_toArray, List.set_cons_zero, List.set_cons_succ, List.getElem_toArray, List.getElem_cons_zero, List.getElem_cons_succ]
                            refine wpAnyH_take (i := 9) (v := ?_) rfl (by kernel_rfl) (by kernel_rfl) (by kernel_rfl) (fun _ _ _ h => h) (Or.inl ⟨by rfl, ?_⟩) (by assumption) ?_
                            rotate_left 1
                            · intro wz hwz
                              go_simp
                              all_goals with_reducible rfl
                            simp only [Act.put, List.setIfInBounds_toArray, List.set_cons_zero, List.set_cons_succ, List.getElem_toArray, List.getElem_cons_zero, List.getElem_cons_succ]
                            refine wpAnyH_take (i := 10) (v := ?_) rfl (by kernel_rfl) (by kernel_rfl) (by kernel_rfl) (fun _ _ _ h => h) (Or.inl ⟨by rfl, ?_⟩) (by assumption) ?_
                            rotate_left 1
                            · intro wz hwz
                              obtain ⟨q0, q1, q2, q3, q4, q5, q6⟩ := HEE.out _ hwz
                              go_simp
                              all_goals with_reducible rfl
                            simp only [Act.put, List.setIfInBounds_toArray, List.set_cons_zero, List.set_cons_succ, List.getElem_toArray, List.getElem_cons_zero, List.getElem_cons_succ]
                            refine wpAnyH_take (i := 11) (v := ?_) rfl (by kernel_rfl) (by kernel_rfl) (by kernel_rfl) (fun _ _ _ h => h) (Or.inl ⟨by rfl, ?_⟩) (by assumption) ?_
                            rotate_left 1
                            · intro wz hwz
                              go_simp
                              all_goals with_reducible rfl
                            simp only [Act.put, List.setIfInBounds_toArray, List.set_cons_zero, List.set_cons_succ, List.getElem_toArray, List.getElem_cons_zero, List.getElem_cons_succ]
                            refine wpAnyH_take (i := 12) (v := ?_) rfl (by kernel_rfl) (by kernel_rfl) (by kernel_rfl) (fun _ _ _ h => h) (Or.inl ⟨by rfl, ?_⟩) (by assumption) ?_
                            rotate_left 1
                            · intro wz hwz
                              go_simp
                              all_goals with_reducible rfl
                            simp only [Act.put, List.setIfInBounds_toArray, List.set_cons_zero, List.set_cons_succ, List.getElem_toArray, List.getElem_cons_zero, List.getElem_cons_succ]
                            refine wpAnyH_ready (rs := [13]) (by kernel_rfl) (by simp) (AllReadyH.cons rfl (fun K hK => ?_) AllReadyH.nil)
                            refine step_store8 (by rfl) 58 _ _ (by rfl) g3 (a * 8) #[.int .i64 tk, .int .i64 ev.p, .int .i64 ev.t, .int .i64 ev.k, .int .i64 ev.d, .int .i64 ev.a, .int .i64 ev.b, .int .i64 ev.r] (by rfl) (by rfl) HTh.out size8 (all_oneCell_toArray (cs := Kp.list ⟨tk, ev⟩) (fun v hv => kpCells_one [⟨tk, ev⟩] v (by simpa [kpCells] using hv))) ?_
                            refine hK.out _ _ ?_ (fun hHeld => ?_)
                            · exact HO4'.out _ (grown_trans (grown_of_below (below_drewN (Below.refl _ _) 1) _) (setCells_grown g3 _ _ _))
                            clear hK K
                            refine wpAnyH_done (by kernel_rfl) ?_ _
                            generalize hW6 : World.setCells _ g3 (a * 8) _ = W6 at hHeld ⊢
                            have HP6 : Hid (W6.ownsRow w.heap.size 58 8 (.slice (some ⟨g3, 0, none⟩) (B.length + 1) c3) (B.length + 1) (kpCells (insL B ⟨tk, ev⟩))) := by rw [← hW6]; exact own_setDrew HPut.out
                            clear hW6 HPut HTh
                            have HM5 := hideIt hHeld
                            clear hHeld
                            go_wp2
                            go_roundw
                            case rel => exact ⟨j + 1, 0, insL B ⟨tk, ev⟩, by omega, by go_num, rfl, by rw [HBN.out], by rw [insL_len]; omega, by rw [insL_len]; exact HP6.out, HM5.out, Or.inl ⟨rfl, HN.out⟩⟩
                            case measure => simp [intOf]; omega
                        · have ha00 : a = 0 := by omega
                          have a0i : ¬ (0 : Int) < (a : Int) := by omega
                          have a0d : decide ((0 : Int) < (a : Int)) = false := decide_eq_false a0i
                          have a0dn : decide (0 < a) = false := decide_eq_false ha0
                          have HIa : Hid (insA tk B B.length = a) := by
                            show insA tk B B.length = a
                            rw [HIN.out, ha00]; unfold insA; rfl
                          clear ha00
                          go_wp2_with fail
                          go_quiet (fail)
                          have HIL : Hid (insL B ⟨tk, ev⟩ = B.take a ++ ⟨tk, ev⟩ :: B.drop a) := insL_at (x := ⟨tk, ev⟩) HIa.out
                          go_wp2_with (at_builtin; refine wpList_append_own _ rfl _ _ 53 rfl w.heap.size 58 i0 _ 8 64 Tryd.underlying53 hi hz0 hz1 hz2 rfl (by decide) _ _ _ rfl ((own_drewN HO2.out _).alloc _) ⟨W3.heap.size, 0, none⟩ 1 1 [.int .i64 0, .int .i64 0, .int .i64 0, .int .i64 0, .int .i64 0, .int .i64 0, .int .i64 0, .int .i64 0] rfl rfl ?b1 ?b2 ?b3 ?b4 ?b5 ?_)
                          case b1 =>
                            intro j' u hj'
                            exact new_at rfl (by simpa using hj')
                          case b2 => intro u hu; simp at hu; subst hu; rfl
                          case b3 => unfold maxLen; omega
                          case b4 => omega
                          case b5 => simp; omega
                          intro v3 w3 ho3 hg3 _
                          have ho4 : w3.ownsRow w.heap.size 58 8 v3 (B.length + 1) (kpCells (B ++ [⟨0, zeroE⟩])) := by rw [kpCells_snoc]; exact ho3
                          have hM3 : M2 w w3 S (.slice (some ⟨b1, o1, none⟩) s.tk.length c1) (.slice a2 s.ev.length c2) (.slice (some ⟨gw, 0, none⟩) s.ev.length cw) s.ev := ((HM2.out.below (below_drewN (Below.refl _ _) _)).below (below_alloc (Below.refl _ _) _)).turn ((own_drewN HO2.out _).alloc _) hg3
                          obtain ⟨g3, c3, rfl, hbg3, hgz3⟩ : ∃ g c, v3 = .slice (some ⟨g, 0, none⟩) (B.length + 1) c ∧ w.heap.size ≤ g ∧ g < w3.heap.size := by
                            rcases own_shapeK ho4 with ⟨_, h0⟩ | ⟨g, c, e, h1, h2⟩
                            · omega
                            · exact ⟨g, c, e, h1, h2⟩
                          have hc3 : B.length + 1 ≤ c3 := by
                            obtain ⟨_, ⟨e, _⟩ | ⟨g, cap, cur, e, _, _, h5, _⟩⟩ := ho4
                            · cases e
                            · injection e with _ _ e3; omega
                          have HO4 := hideIt ho4
                          have HM3 := hideIt hM3
                          have hz3 : W3.heap.size ≤ w3.heap.size := by have := hg3.size; simp at this; omega
                          clear ho3 ho4 hg3 hM3
                          go_wp2_with fail
                          have ha1 : (a : Int) + 1 ≤ (c3 : Int) := by omega
                          have ha0 : (0 : Int) ≤ (a : Int) + 1 := by omega
                          have ha2 : (a : Int) + 1 ≤ (B.length : Int) + 1 := by omega
                          have ha3 : (a : Int) ≤ (B.length : Int) + 1 := by omega
                          have haw : IntKind.i64.wrap ((a : Int) + 1) = (a : Int) + 1 := by rw [IntKind.wrap_i64]; omega
                          have hat : ((a : Int) + 1).toNat = a + 1 := by omega
                          have hca : ¬ c3 = a := by omega
                          obtain ⟨dpp, hdp⟩ : ∃ d, (if c3 = a + 1 then some (⟨g3, 0, none⟩ : Addr) else some ⟨g3, (a + 1) * 8, none⟩) = d := ⟨_, rfl⟩
                          refine wp_region_held_drew (S := fun _ => True) (by kernel_rfl) True.intro (fun hHeld => ?_)
                          refine wpAnyH_take (i := 0) (v := ?_) rfl (by kernel_rfl) (by kernel_rfl) (by kernel_rfl) (fun _ _ _ h => h) (Or.inl ⟨by rfl, ?_⟩) (by assumption) ?_
                          rotate_left 1
                          · intro wz hwz
                            go_simp
                            all_goals with_reducible rfl
                          simp only [Act.put, List.setIfInBounds_toArray, List.set_cons_zero, List.set_cons_succ, List.getElem_toArray, List.getElem_cons_zero]
                          refine wpAnyH_take (i := 1) (v := ?_) rfl (by kernel_rfl) (by kernel_rfl) (by kernel_rfl) (fun _ _ _ h => h) (Or.inl ⟨by rfl, ?_⟩) (by assumption) ?_
                          rotate_left 1
                          · intro wz hwz
                            go_simp
                            all_goals with_reducible rfl
                          simp only [Act.put, List.setIfInBounds_toArray, List.set_cons_zero, List.set_cons_succ, List.getElem_toArray, List.getElem_cons_zero, List.getElem_cons_succ]
                          refine wpAnyH_take (i := 2) (v := ?_) rfl (by kernel_rfl) (by kernel_rfl) (by kernel_rfl) (fun _ _ _ h => h) (Or.inl ⟨by rfl, ?_⟩) (by assumption) ?_
                          rotate_left 1
                          · intro wz hwz
                            go_simp
                            all_goals with_reducible rfl
                          simp only [Act.put, List.setIfInBounds_toArray, List.set_cons_zero, List.set_cons_succ, List.getElem_toArray, List.getElem_cons_zero, List.getElem_cons_succ]
                          refine wpAnyH_take (i := 3) (v := ?_) rfl (by kernel_rfl) (by kernel_rfl) (by kernel_rfl) (fun _ _ _ h => h) (Or.inl ⟨by rfl, ?_⟩) (by assumption) ?_
                          rotate_left 1
                          · intro wz hwz
                            go_simp
                            all_goals with_reducible rfl
                          simp only [Act.put, List.setIfInBounds_toArray, List.set_cons_zero, List.set_cons_succ, List.getElem_toArray, List.getElem_cons_zero, List.getElem_cons_succ]
                          refine wpAnyH_take (i := 4) (v := ?_) rfl (by kernel_rfl) (by kernel_rfl) (by kernel_rfl) (fun _ _ _ h => h) (Or.inl ⟨by rfl, ?_⟩) (by assumption) ?_
                          rotate_left 1
                          · intro wz hwz
                            go_simp
                            all_goals with_reducible rfl
                          simp only [Act.put, List.setIfInBounds_toArray, List.set_cons_zero, List.set_cons_succ, List.getElem_toArray, List.getElem_cons_zero, List.getElem_cons_succ]
                          refine wpAnyH_take (i := 5) (v := ?_) rfl (by kernel_rfl) (by kernel_rfl) (by kernel_rfl) (fun _ _ _ h => h) (Or.inl ⟨by rfl, ?_⟩) (by assumption) ?_
                          rotate_left 1
                          · intro wz hwz
                            go_simp
                            all_goals with_reducible rfl
                          simp only [Act.put, List.setIfInBounds_toArray, List.set_cons_zero, List.set_cons_succ, List.getElem_toArray, List.getElem_cons_zero, List.getElem_cons_succ]
                          refine wpAnyH_take (i := 6) (v := ?_) rfl (by kernel_rfl) (by kernel_rfl) (by kernel_rfl) (fun _ _ _ h => h) (Or.inl ⟨by rfl, ?_⟩) (by assumption) ?_
                          rotate_left 1
                          · intro wz hwz
                            go_simp
                            all_goals with_reducible rfl
                          simp only [Act.put, List.setIfInBounds_toArray, List.set_cons_zero, List.set_cons_succ, List.getElem_toArray, List.getElem_cons_zero, List.getElem_cons_succ]
                          refine wpAnyH_ready (rs := [7]) (by kernel_rfl) (by simp) (AllReadyH.cons rfl (fun K hK => ?_) AllReadyH.nil)
                          refine step_copy_ins (by rfl) _ _ (by rfl) _ _ _ _ _ _ (by rfl) (by rfl) w.heap.size g3 c3 B ⟨0, zeroE⟩ a (own_drewN HO4.out 1) hal (by omega) (by omega) (fun hlt => ⟨by first | rfl | (rw [← hdp, if_neg (by omega)]) | (rw [if_neg (by omega)]), by first | rfl | (rw [if_neg (by omega)])⟩) ?_
                          refine hK.out _ _ ?_ (fun hHeld => ?_)
                          · exact True.intro
                          clear hK K
                          refine wpAnyH_done (by kernel_rfl) ?_ _
                          generalize hW4 : World.setCells _ g3 ((a + 1) * 8) (kpCells (B.drop a)) = W4
                          have hg4 : w3.grownBy W4 (some g3) := by rw [← hW4]; exact grown_trans (grown_of_below (below_drewN (Below.refl _ _) 1) _) (setCells_grown g3 _ _ _)
                          have hM4 : M2 w W4 S (.slice (some ⟨b1, o1, none⟩) s.tk.length c1) (.slice a2 s.ev.length c2) (.slice (some ⟨gw, 0, none⟩) s.ev.length cw) s.ev := HM3.out.turn HO4.out hg4
                          have hobj4 : ∃ cur, W4.heap[g3]? = some (.cells cur 58 (0, 0)) ∧ (B.length + 1) * 8 ≤ cur.size := by
                            obtain ⟨_, ⟨e, _⟩ | ⟨g, cap, cur, e, _, hh, h1, _, h3, _⟩⟩ := own_drewN HO4.out 1
                            · cases e
                            · injection e with e1 _ e3
                              injection e1 with e1
                              injection e1 with e1 _
                              subst e1
                              have hcs : (kpCells (B.drop a)).length = (B.length - a) * 8 := by rw [kpCells_len, List.length_drop]
                              refine ⟨_, by rw [← hW4]; exact setCells_row g3 (kpCells (B.drop a)) ((a + 1) * 8) _ cur hh (by rw [hcs, h3]; omega), ?_⟩
                              rw [List.size_toArray, overL_len (by rw [hcs]; simp; omega)]
                              simp; omega
                          have HPut : Hid ((W4.setCells g3 (a * 8) (Kp.list ⟨tk, ev⟩)).ownsRow w.heap.size 58 8 (.slice (some ⟨g3, 0, none⟩) (B.length + 1) c3) (B.length + 1) (kpCells (insL B ⟨tk, ev⟩))) := by
                            rw [HIL.out, ← hW4]
                            exact row_put (own_drewN HO4.out 1) hal
                          obtain ⟨cur4, hobj4, hcur4⟩ := hobj4
                          have HTh : Hid (W4.drew.there g3 (a * 8) 8) := fun j hj => ⟨by obtain ⟨u, e⟩ := there_of (W := W4.drew) hobj4 (i := a * 8 + j) (by omega); rw [e]; rfl, fz_of (W := W4.drew) hobj4 _⟩
                          have HO4' : Hid (∀ W5, W4.grownBy W5 (some g3) → M2 w W5 S (.slice (some ⟨b1, o1, none⟩) s.tk.length c1) (.slice a2 s.ev.length c2) (.slice (some ⟨gw, 0, none⟩) s.ev.length cw) s.ev) := fun W5 hg5 => HM3.out.turn HO4.out (grown_trans hg4 hg5)
                          have HM4 := hideIt hM4
                          have hz4 : g3 < W4.heap.size := Nat.lt_of_lt_of_le hgz3 hg4.size
                          clear hW4 hg4 hM4 hobj4 hcur4 HM3 HO4 hHeld ha0 ha2 ha3 haw hat hca hdp
                          go_wp2_with fail
                          have hab : (a : Int) < (B.length : Int) + 1 := by omega
                          refine wp_region_held_drew (S := fun W => M2 w W S (.slice (some ⟨b1, o1, none⟩) s.tk.length c1) (.slice a2 s.ev.length c2) (.slice (some ⟨gw, 0, none⟩) s.ev.length cw) s.ev) (by kernel_rfl) (HM4.out.below (below_drewN (Below.refl _ _) 1)) (fun hHeld => ?_)
                          refine wpAnyH_take (i := 0) (v := ?_) rfl (by kernel_rfl) (by kernel_rfl) (by kernel_rfl) (fun _ _ _ h => h) (Or.inl ⟨by rfl, ?_⟩) (by assumption) ?_
                          rotate_left 1
                          · intro wz hwz
                            go_simp
                            all_goals with_reducible rfl
                          simp only [Act.put, List.setIfInBounds_toArray, List.getElem_toArray, List.getElem_cons_zero]
                          refine wpAnyH_take (i := 1) (v := ?_) rfl (by kernel_rfl) (by kernel_rfl) (by kernel_rfl) (fun _ _ _ h => h) (Or.inl ⟨by rfl, ?_⟩) (by assumption) ?_
                          rotate_left 1
                          · intro wz hwz
                            go_simp
                            all_goals with_reducible rfl
                          simp only [Act.put, List.setIfInBounds_toArray, List.set_cons_zero, List.set_cons_succ, List.getElem_toArray, List.getElem_cons_zero, List.getElem_cons_succ]
                          refine wpAnyH_take (i := 2) (v := ?_) rfl (by kernel_rfl) (by kernel_rfl) (by kernel_rfl) (fun _ _ _ h => h) (Or.inl ⟨by rfl, ?_⟩) (by assumption) ?_
                          rotate_left 1
                          · intro wz hwz
                            go_simp
                            all_goals with_reducible rfl
                          simp only [Act.put, List.setIfInBounds_toArray, List.set_cons_zero, List.set_cons_succ, List.getElem_toArray, List.getElem_cons_zero, List.getElem_cons_succ]
                          refine wpAnyH_take (i := 3) (v := ?_) rfl (by kernel_rfl) (by kernel_rfl) (by kernel_rfl) (fun _ _ _ h => h) (Or.inl ⟨by rfl, ?_⟩) (by assumption) ?_
                          rotate_left 1
                          · intro wz hwz
                            have q0 := hwz.tick
                            go_simp
                            all_goals with_reducible rfl
                          simp only [Act.put, List.setIfInBounds_toArray, List.set_cons_zero, List.set_cons_succ, List.getElem_toArray, List.getElem_cons_zero, List.getElem_cons_succ]
                          refine wpAnyH_take (i := 4) (v := ?_) rfl (by kernel_rfl) (by kernel_rfl) (by kernel_rfl) (fun _ _ _ h => h) (Or.inl ⟨by rfl, ?_⟩) (by assumption) ?_
                          rotate_left 1
                          · intro wz hwz
                            go_simp
                            all_goals with_reducible rfl
                          simp only [Act.put, List.setIfInBounds_toArray, List.set_cons_zero, List.set_cons_succ, List.getElem_toArray, List.getElem_cons_zero, List.getElem_cons_succ]
                          refine wpAnyH_take (i := 5) (v := ?_) rfl (by kernel_rfl) (by kernel_rfl) (by kernel_rfl) (fun _ _ _ h => h) (Or.inl ⟨by rfl, ?_⟩) (by assumption) ?_
                          rotate_left 1
                          · intro wz hwz
                            go_simp
                            all_goals with_reducible rfl
                          simp only [Act.put, List.setIfInBounds_toArray, List.set_cons_zero, List.set_cons_succ, List.getElem_toArray, List.getElem_cons_zero, List.getElem_cons_succ]
                          refine wpAnyH_take (i := 6) (v := ?_) rfl (by kernel_rfl) (by kernel_rfl) (by kernel_rfl) (fun _ _ _ h => h) (Or.inl ⟨by rfl, ?_⟩) (by assumption) ?_
                          rotate_left 1
                          · intro wz hwz
                            have q0 := (hwz.bel.cell (p := ⟨b1, o1 + j, none⟩) hb1).trans HX1.out
                            go_simp
                            all_goals with_reducible rfl
                          simp only [Act.put, List.setIfInBounds_toArray, List.set_cons_zero, List.set_cons_succ, List.getElem_toArray, List.getElem_cons_zero, List.getElem_cons_succ]
                          refine wpAnyH_take (i := 7) (v := ?_) rfl (by kernel_rfl) (by kernel_rfl) (by kernel_rfl) (fun _ _ _ h => h) (Or.inl ⟨by rfl, ?_⟩) (by assumption) ?_
                          rotate_left 1
                          · intro wz hwz
                            go_simp
                            all_goals with_reducible rfl
                          simp only [Act.put, List.setIfInBounds_toArray, List.set_cons_zero, List.set_cons_succ, List.getElem_toArray, List.getElem_cons_zero, List.getElem_cons_succ]
                          refine wpAnyH_take (i := 8) (v := ?_) rfl (by kernel_rfl) (by kernel_rfl) (by kernel_rfl) (fun _ _ _ h => h) (Or.inl ⟨by rfl, ?_⟩) (by assumption) ?_
                          rotate_left 1
                          · intro wz hwz
                            go_simp
                            all_goals with_reducible rfl
                          simp only [Act.put, List.setIfInBounds_toArray, List.set_cons_zero, List.set_cons_succ, List.getElem_toArray, List.getElem_cons_zero, List.getElem_cons_succ]
                          refine wpAnyH_take (i := 9) (v := ?_) rfl (by kernel_rfl) (by kernel_rfl) (by kernel_rfl) (fun _ _ _ h => h) (Or.inl ⟨by rfl, ?_⟩) (by assumption) ?_
                          rotate_left 1
                          · intro wz hwz
                            go_simp
                            all_goals with_reducible rfl
                          simp only [Act.put, List.setIfInBounds_toArray, List.set_cons_zero, List.set_cons_succ, List.getElem_toArray, List.getElem_cons_zero, List.getElem_cons_succ]
                          refine wpAnyH_take (i := 10) (v := ?_) rfl (by kernel_rfl) (by kernel_rfl) (by kernel_rfl) (fun _ _ _ h => h) (Or.inl ⟨by rfl, ?_⟩) (by assumption) ?_
                          rotate_left 1
                          · intro wz hwz
                            obtain ⟨q0, q1, q2, q3, q4, q5, q6⟩ := HEE.out _ hwz
                            go_simp
                            all_goals with_reducible rfl
                          simp only [Act.put, List.setIfInBounds_toArray, List.set_cons_zero, List.set_cons_succ, List.getElem_toArray, List.getElem_cons_zero, List.getElem_cons_succ]
                          refine wpAnyH_take (i := 11) (v := ?_) rfl (by kernel_rfl) (by kernel_rfl) (by kernel_rfl) (fun _ _ _ h => h) (Or.inl ⟨by rfl, ?_⟩) (by assumption) ?_
                          rotate_left 1
                          · intro wz hwz
                            go_simp
                            all_goals with_reducible rfl
                          simp only [Act.put, List.setIfInBounds_toArray, List.set_cons_zero, List.set_cons_succ, List.getElem_toArray, List.getElem_cons_zero, List.getElem_cons_succ]
                          refine wpAnyH_take (i := 12) (v := ?_) rfl (by kernel_rfl) (by kernel_rfl) (by kernel_rfl) (fun _ _ _ h => h) (Or.inl ⟨by rfl, ?_⟩) (by assumption) ?_
                          rotate_left 1
                          · intro wz hwz
                            go_simp
                            all_goals with_reducible rfl
                          simp only [Act.put, List.setIfInBounds_toArray, List.set_cons_zero, List.set_cons_succ, List.getElem_toArray, List.getElem_cons_zero, List.getElem_cons_succ]
                          refine wpAnyH_ready (rs := [13]) (by kernel_rfl) (by simp) (AllReadyH.cons rfl (fun K hK => ?_) AllReadyH.nil)
                          refine step_store8 (by rfl) 58 _ _ (by rfl) g3 (a * 8) #[.int .i64 tk, .int .i64 ev.p, .int .i64 ev.t, .int .i64 ev.k, .int .i64 ev.d, .int .i64 ev.a, .int .i64 ev.b, .int .i64 ev.r] (by rfl) (by rfl) HTh.out size8 (all_oneCell_toArray (cs := Kp.list ⟨tk, ev⟩) (fun v hv => kpCells_one [⟨tk, ev⟩] v (by simpa [kpCells] using hv))) ?_
                          refine hK.out _ _ ?_ (fun hHeld => ?_)
                          · exact HO4'.out _ (grown_trans (grown_of_below (below_drewN (Below.refl _ _) 1) _) (setCells_grown g3 _ _ _))
                          clear hK K
                          refine wpAnyH_done (by kernel_rfl) ?_ _
                          generalize hW6 : World.setCells _ g3 (a * 8) _ = W6 at hHeld ⊢
                          have HP6 : Hid (W6.ownsRow w.heap.size 58 8 (.slice (some ⟨g3, 0, none⟩) (B.length + 1) c3) (B.length + 1) (kpCells (insL B ⟨tk, ev⟩))) := by rw [← hW6]; exact own_setDrew HPut.out
                          clear hW6 HPut HTh
                          have HM5 := hideIt hHeld
                          clear hHeld
                          go_wp2
                          go_roundw
                          case rel => exact ⟨j + 1, 0, insL B ⟨tk, ev⟩, by omega, by go_num, rfl, by rw [HBN.out], by rw [insL_len]; omega, by rw [insL_len]; exact HP6.out, HM5.out, Or.inl ⟨rfl, HN.out⟩⟩
                          case measure => simp [intOf]; omega
                  · have hfs : fltS s = 10 := by unfold fltS; rw [if_neg (fun h => h HLE.out), hri]; rfl
                    have HV : Hid (fltSs l = 10) := by show fltSs l = 10; rw [HFS.out (by rw [hfs]; decide), hfs]
                    have HALL := hideIt (HSA.out h1 h2 (by rw [hfs]; decide))
                    clear hfs hri
                    go_wp2
                    go_roundw
                    case rel => exact ⟨k + 1, 10, B, by omega, by go_num, rfl, by omega, HO2.out, HM2.out.bel, HSM2.out, Or.inr ⟨rfl, HV.out, HALL.out⟩⟩
                    case measure => simp [intOf]; omega
                · have ji : ¬ (j : Int) < (s.ev.length : Int) := by omega
                  have jd : decide ((j : Int) < (s.ev.length : Int)) = false := decide_eq_false ji
                  clear hev
                  rcases hst2 with ⟨rfl, hup⟩ | ⟨rfl, hri⟩
                  · have hri : riseB s.tk = true := (riseB_iff s.tk).2 (fun i h => hup i h (by omega))
                    have hfs : fltS s = 0 := by unfold fltS; rw [if_neg (fun h => h HLE.out), hri]; rfl
                    have HF2 := hideIt (HFN.out hfs)
                    have HE2 := hideIt (HPN.out j (by omega))
                    clear hfs hri hup
                    go_wp2
                    go_roundw
                    case rel => exact ⟨k + 1, 0, B, by omega, by go_num, rfl, by omega, HO2.out, HM2.out.bel, HSM2.out, Or.inl ⟨rfl, HF2.out, by rw [← HE2.out]; exact HBE.out, by omega⟩⟩
                    case measure => simp [intOf]; omega
                  · have hfs : fltS s = 10 := by unfold fltS; rw [if_neg (fun h => h HLE.out), hri]; rfl
                    have HV : Hid (fltSs l = 10) := by show fltSs l = 10; rw [HFS.out (by rw [hfs]; decide), hfs]
                    have HALL := hideIt (HSA.out h1 h2 (by rw [hfs]; decide))
                    clear hfs hri
                    go_wp2
                    go_roundw
                    case rel => exact ⟨k + 1, 10, B, by omega, by go_num, rfl, by omega, HO2.out, HM2.out.bel, HSM2.out, Or.inr ⟨rfl, HV.out, HALL.out⟩⟩
                    case measure => simp [intOf]; omega
            · have hne : (((s.tk.length : Nat) : Int) != ((s.ev.length : Nat) : Int)) = true := by simp; omega
              have hfs : fltS s = 3 := by unfold fltS; rw [if_pos hlen]
              have HV : Hid (fltSs l = 3) := by show fltSs l = 3; rw [HFS.out (by rw [hfs]; decide), hfs]
              have HALL := hideIt (HSA.out h1 h2 (by rw [hfs]; decide))
              have HX1 : Hid (Below w.heap.size w (wr.alloc (.cells #[.slice a1 s.tk.length c1, .slice a2 s.ev.length c2] 56))) := below_alloc HX.out _
              clear hfs hlen
              have HMg : Hid (∀ W, SpQ W (.slice (some ⟨b, o, none⟩) l.length c) l → Calls Tryd.prog 20 #[.slice (some ⟨b, o, none⟩) l.length c] W fun e w' => e = .returned (.tuple #[.slice none 0 0, .iface 28 (.int .i64 3)]) ∧ Below W.heap.size W w') := by
                intro W hq
                refine Calls.mono (merge_any _ l W hq (by omega) (fun i h h0 => by have := HALL.out i h h0; omega)) ?_
                rintro e w' ⟨hb, hcase⟩
                rcases hcase with ⟨_, rfl⟩ | ⟨h0, _⟩
                · exact ⟨by rw [HV.out], hb⟩
                · rw [HV.out] at h0; exact absurd h0 (by decide)
              have HBa := hideIt (fun W (hg : GlE W) => bare_any 3 W hg)
              rw [told3] at HBa
              by_cases c1 : 1 < A.length
              · have c1' : (1 : Int) < (A.length : Int) := by omega
                have c1d : decide ((1 : Int) < (A.length : Int)) = true := decide_eq_true c1'
                have c0 : 0 < A.length := by omega
                have c0d : decide (0 < A.length) = true := decide_eq_true c0
                have c0' : (0 : Int) < (A.length : Int) := by omega
                have c0d' : decide ((0 : Int) < (A.length : Int)) = true := decide_eq_true c0'
                go_wp2_with fail
                refine wp_loop_rounds 1 ?_
                rw [rounds_succ]
                go_wp2_with fail
                refine wp_loop_rounds 1 ?_
                rw [rounds_succ]
                go_wp2_with fail
                refine (HMg.out _ (HQ.out.low HX1.out)).mono ?_
                rintro x w5 ⟨rfl, hb5⟩
                have HB5 := hideIt (below_join HX1.out hb5)
                clear hb5
                go_wp2_with fail
                refine (HBa.out _ (HG.out.below HB5.out)).mono ?_
                rintro x w6 ⟨rfl, hb6⟩
                have HB6 := hideIt (below_join HB5.out hb6)
                clear hb6
                go_wp2_with fail
                refine (sameEvents_true _ _ [] _ evq_nil evq_nil (by simp)).mono ?_
                rintro x w7 ⟨rfl, hb7⟩
                have HB7 := hideIt (below_join HB6.out hb7)
                clear hb7
                go_wp2
                go_ret
                exact ⟨rfl, HB7.out⟩
              · have c1' : ¬ (1 : Int) < (A.length : Int) := by omega
                have c1d : decide ((1 : Int) < (A.length : Int)) = false := decide_eq_false c1'
                by_cases c0 : 0 < A.length
                · have c0d : decide (0 < A.length) = true := decide_eq_true c0
                  have c0' : (0 : Int) < (A.length : Int) := by omega
                  have c0d' : decide ((0 : Int) < (A.length : Int)) = true := decide_eq_true c0'
                  go_wp2_with fail
                  refine wp_loop_rounds 1 ?_
                  rw [rounds_succ]
                  go_wp2_with fail
                  refine wp_loop_rounds 1 ?_
                  rw [rounds_succ]
                  go_wp2_with fail
                  refine (HMg.out _ (HQ.out.low HX1.out)).mono ?_
                  rintro x w5 ⟨rfl, hb5⟩
                  have HB5 := hideIt (below_join HX1.out hb5)
                  clear hb5
                  go_wp2_with fail
                  refine (HBa.out _ (HG.out.below HB5.out)).mono ?_
                  rintro x w6 ⟨rfl, hb6⟩
                  have HB6 := hideIt (below_join HB5.out hb6)
                  clear hb6
                  go_wp2_with fail
                  refine (sameEvents_true _ _ [] _ evq_nil evq_nil (by simp)).mono ?_
                  rintro x w7 ⟨rfl, hb7⟩
                  have HB7 := hideIt (below_join HB6.out hb7)
                  clear hb7
                  go_wp2
                  go_ret
                  exact ⟨rfl, HB7.out⟩
                · have c0d : decide (0 < A.length) = false := decide_eq_false c0
                  have c0' : ¬ (0 : Int) < (A.length : Int) := by omega
                  have c0d' : decide ((0 : Int) < (A.length : Int)) = false := decide_eq_false c0'
                  go_wp2_with fail
                  refine wp_loop_rounds 1 ?_
                  rw [rounds_succ]
                  go_wp2_with fail
                  refine wp_loop_rounds 1 ?_
                  rw [rounds_succ]
                  go_wp2_with fail
                  refine (HMg.out _ (HQ.out.low HX1.out)).mono ?_
                  rintro x w5 ⟨rfl, hb5⟩
                  have HB5 := hideIt (below_join HX1.out hb5)
                  clear hb5
                  go_wp2_with fail
                  refine (HBa.out _ (HG.out.below HB5.out)).mono ?_
                  rintro x w6 ⟨rfl, hb6⟩
                  have HB6 := hideIt (below_join HB5.out hb6)
                  clear hb6
                  go_wp2_with fail
                  refine (sameEvents_true _ _ [] _ evq_nil evq_nil (by simp)).mono ?_
                  rintro x w7 ⟨rfl, hb7⟩
                  have HB7 := hideIt (below_join HB6.out hb7)
                  clear hb7
                  go_wp2
                  go_ret
                  exact ⟨rfl, HB7.out⟩
          · have h1' : ¬ (60 : Int) < (s.tk.length : Int) := by omega
            have h2' : (60 : Int) < (s.ev.length : Int) := by omega
            have d1 : decide ((60 : Int) < (s.tk.length : Int)) = false := decide_eq_false h1'
            go_wp2
            go_ret
            exact ⟨rfl, below_alloc HX.out _⟩
        · have h1' : (60 : Int) < (s.tk.length : Int) := by omega
          have d1 : decide ((60 : Int) < (s.tk.length : Int)) = true := decide_eq_true h1'
          go_wp2
          go_ret
          exact ⟨rfl, below_alloc HX.out _⟩
      · have HV := hideIt hflt
        have HALL := hideIt hall
        clear hflt hall
        have HMg : Hid (∀ W, SpQ W (.slice a l.length c) l → Calls Tryd.prog 20 #[.slice a l.length c] W fun e w' => e = .returned (.tuple #[.slice none 0 0, .iface 28 (.int .i64 10)]) ∧ Below W.heap.size W w') := by
          intro W hq
          refine Calls.mono (merge_any _ l W hq (by omega) (fun i h h0 => by have := HALL.out i h h0; omega)) ?_
          rintro e w' ⟨hb, hcase⟩
          rcases hcase with ⟨_, rfl⟩ | ⟨h0, _⟩
          · exact ⟨by rw [HV.out], hb⟩
          · rw [HV.out] at h0; exact absurd h0 (by decide)
        have HBa := hideIt (fun W (hg : GlE W) => bare_any 10 W hg)
        rw [told10] at HBa
        by_cases c1 : 1 < A.length
        · have c1' : (1 : Int) < (A.length : Int) := by omega
          have c1d : decide ((1 : Int) < (A.length : Int)) = true := decide_eq_true c1'
          have c0 : 0 < A.length := by omega
          have c0d : decide (0 < A.length) = true := decide_eq_true c0
          have c0' : (0 : Int) < (A.length : Int) := by omega
          have c0d' : decide ((0 : Int) < (A.length : Int)) = true := decide_eq_true c0'
          go_wp2_with fail
          refine wp_loop_rounds 1 ?_
          rw [rounds_succ]
          go_wp2_with fail
          refine wp_loop_rounds 1 ?_
          rw [rounds_succ]
          go_wp2_with fail
          refine (HMg.out _ (HQ.out.low HX.out)).mono ?_
          rintro x w5 ⟨rfl, hb5⟩
          have HB5 := hideIt (below_join HX.out hb5)
          clear hb5
          go_wp2_with fail
          refine (HBa.out _ (HG.out.below HB5.out)).mono ?_
          rintro x w6 ⟨rfl, hb6⟩
          have HB6 := hideIt (below_join HB5.out hb6)
          clear hb6
          go_wp2_with fail
          refine (sameEvents_true _ _ [] _ evq_nil evq_nil (by simp)).mono ?_
          rintro x w7 ⟨rfl, hb7⟩
          have HB7 := hideIt (below_join HB6.out hb7)
          clear hb7
          go_wp2
          go_ret
          exact ⟨rfl, HB7.out⟩
        · have c1' : ¬ (1 : Int) < (A.length : Int) := by omega
          have c1d : decide ((1 : Int) < (A.length : Int)) = false := decide_eq_false c1'
          by_cases c0 : 0 < A.length
          · have c0d : decide (0 < A.length) = true := decide_eq_true c0
            have c0' : (0 : Int) < (A.length : Int) := by omega
            have c0d' : decide ((0 : Int) < (A.length : Int)) = true := decide_eq_true c0'
            go_wp2_with fail
            refine wp_loop_rounds 1 ?_
            rw [rounds_succ]
            go_wp2_with fail
            refine wp_loop_rounds 1 ?_
            rw [rounds_succ]
            go_wp2_with fail
            refine (HMg.out _ (HQ.out.low HX.out)).mono ?_
            rintro x w5 ⟨rfl, hb5⟩
            have HB5 := hideIt (below_join HX.out hb5)
            clear hb5
            go_wp2_with fail
            refine (HBa.out _ (HG.out.below HB5.out)).mono ?_
            rintro x w6 ⟨rfl, hb6⟩
            have HB6 := hideIt (below_join HB5.out hb6)
            clear hb6
            go_wp2_with fail
            refine (sameEvents_true _ _ [] _ evq_nil evq_nil (by simp)).mono ?_
            rintro x w7 ⟨rfl, hb7⟩
            have HB7 := hideIt (below_join HB6.out hb7)
            clear hb7
            go_wp2
            go_ret
            exact ⟨rfl, HB7.out⟩
          · have c0d : decide (0 < A.length) = false := decide_eq_false c0
            have c0' : ¬ (0 : Int) < (A.length : Int) := by omega
            have c0d' : decide ((0 : Int) < (A.length : Int)) = false := decide_eq_false c0'
            go_wp2_with fail
            refine wp_loop_rounds 1 ?_
            rw [rounds_succ]
            go_wp2_with fail
            refine wp_loop_rounds 1 ?_
            rw [rounds_succ]
            go_wp2_with fail
            refine (HMg.out _ (HQ.out.low HX.out)).mono ?_
            rintro x w5 ⟨rfl, hb5⟩
            have HB5 := hideIt (below_join HX.out hb5)
            clear hb5
            go_wp2_with fail
            refine (HBa.out _ (HG.out.below HB5.out)).mono ?_
            rintro x w6 ⟨rfl, hb6⟩
            have HB6 := hideIt (below_join HB5.out hb6)
            clear hb6
            go_wp2_with fail
            refine (sameEvents_true _ _ [] _ evq_nil evq_nil (by simp)).mono ?_
            rintro x w7 ⟨rfl, hb7⟩
            have HB7 := hideIt (below_join HB6.out hb7)
            clear hb7
            go_wp2
            go_ret
            exact ⟨rfl, HB7.out⟩
    · have hki : ¬ (k : Int) < (l.length : Int) := by omega
      have hkd : decide ((k : Int) < (l.length : Int)) = false := decide_eq_false hki
      have hkl : k = l.length := by omega
      rcases hst with ⟨rfl, hflt, hAe, hAl⟩ | ⟨rfl, hflt, hall⟩
      · rw [hkl, List.take_length] at hflt hAe
        have HFL := hideIt hflt
        have HAE := hideIt hAe
        have HALL : Hid (∀ i, (h : i < l.length) → fltSs (l.take i) = 0 → l[i].tk.length ≤ 60 ∧ l[i].ev.length ≤ 60) := fun i h h0 => HSM.out i h h0 (by omega)
        clear hflt hAe hkl hAl
        obtain ⟨W, rfl⟩ : ∃ W, W = wr := ⟨_, rfl⟩
        rcases own_shapeK HO.out with ⟨e1, hA0⟩ | ⟨g, cg, e1, hbg, hgz⟩
        · have hAn : A = [] := List.eq_nil_of_length_eq_zero hA0
          injection e1 with e1 e2 e3
          have HTW : Hid (twinB A = false) := by show twinB A = false; rw [hAn]; rfl
          have HMg : Hid (∀ V, SpQ V (.slice a l.length c) l → Calls Tryd.prog 20 #[.slice a l.length c] V fun e w' => ∃ v, e = .returned (.tuple #[v, .nilIface]) ∧ w'.ownsRow V.heap.size 23 7 v A.length (evCells (A.map Kp.e)) ∧ Below V.heap.size V w') := by
            intro V hq
            refine Calls.mono (merge_any _ l V hq (by omega) (fun i h h0 => by have := HALL.out i h h0; omega)) ?_
            rintro e w' ⟨hb, ⟨h0, _⟩ | ⟨_, L', hp, hs, hrest⟩⟩
            · exact absurd HFL.out h0
            have hsame := srt_same hs (insAll_spec (pairsL l)).1 (hp.trans (insAll_spec (pairsL l)).2.symm)
            rw [← HAE.out] at hsame
            have ht' : twinB L' = false := by rw [hsame.1]; exact HTW.out
            obtain rfl := hsame.2 ht'
            rcases hrest with ⟨ht, _⟩ | ⟨_, v, rfl, ho⟩
            · rw [ht'] at ht; cases ht
            · exact ⟨v, rfl, ho, hb⟩
          have HBa := hideIt (fun V (hg : GlE V) => bare_any 0 V hg)
          rw [toldV_zero] at HBa
          have HWQ : Hid (∀ V, EvQ V (.slice none 0 0) (A.map Kp.e)) := fun V => by rw [hAn]; exact evq_nil
          have n1 : ¬ (1 : Int) < (A.length : Int) := by omega
          have n1d : decide ((1 : Int) < (A.length : Int)) = false := decide_eq_false n1
          have n0 : ¬ 0 < A.length := by omega
          have n0d : decide (0 < A.length) = false := decide_eq_false n0
          have n0' : ¬ (0 : Int) < (A.length : Int) := by omega
          have n0d' : decide ((0 : Int) < (A.length : Int)) = false := decide_eq_false n0'
          have hA12' : A.length ≤ 1200 := hA12
          clear hA0 e1 e2 e3 hAn
          go_wp2_with fail
          refine wp_loop_rounds 1 ?_
          rw [rounds_succ]
          go_wp2_with fail
          refine wp_loop_rounds 1 ?_
          rw [rounds_succ]
          go_wp2_with fail
          refine (HMg.out _ (HQ.out.low HX.out)).mono ?_
          rintro x w5 ⟨v5, rfl, ho5, hb5⟩
          have HB5 := hideIt (below_join HX.out hb5)
          have HM5 := hideIt (ownT_evq (l := A.map Kp.e) (by rw [List.length_map]; exact ho5))
          obtain ⟨a5, c5, rfl⟩ := own_shapeX ho5
          have HW5 := hideIt (EvQ.low (HWQ.out _) hb5)
          clear hb5 ho5
          go_wp2_with fail
          refine (HBa.out _ (HG.out.below HB5.out)).mono ?_
          rintro x w6 ⟨rfl, hb6⟩
          have HB6 := hideIt (below_join HB5.out hb6)
          have HM6 := hideIt (HM5.out.low hb6)
          have HW6 := hideIt (HW5.out.low hb6)
          clear hb6
          go_wp2_with fail
          refine (sameEvents_true _ _ (A.map Kp.e) _ HM6.out HW6.out (by rw [List.length_map]; omega)).mono ?_
          rintro x w7 ⟨rfl, hb7⟩
          have HB7 := hideIt (below_join HB6.out hb7)
          clear hb7
          go_wp2
          go_ret
          exact ⟨rfl, HB7.out⟩
        · injection e1 with e1 _ e2
          subst e1
          clear e2
          have HOg := hideIt HO.out
          go_wp2
          go_loopw [3, 10] (fun x i wq => ∃ (n i' : Nat) (ee : Int), 1 ≤ i' ∧ i' ≤ 1300 ∧ x = .int .i64 ee ∧ i = .int .i64 i' ∧ wq = W.drewN n ∧ ((ee = 0 ∧ i' ≤ A.length + 1 ∧ ∀ j, (h : j + 1 < A.length) → j + 1 < i' → A[j].n ≠ A[j + 1].n) ∨ (ee = 9 ∧ i' ≤ A.length + 1 ∧ twinB A = true))) (fun x i _ => 1300 - (intOf i).toNat)
          case atStart => exact ⟨0, 1, 0, Nat.le_refl _, by omega, rfl, rfl, rfl, Or.inl ⟨rfl, by omega, fun j _ h => by omega⟩⟩
          case round =>
            obtain ⟨n, i', ee, hi1, hi2, rfl, rfl, rfl, hcase⟩ := hrel
            rcases hcase with ⟨rfl, hil, hno⟩ | ⟨rfl, hil, htw⟩
            · have HNO := hideIt hno
              clear hno
              by_cases hlt4 : i' < A.length
              · have i4 : (i' : Int) < (A.length : Int) := by omega
                have i4d : decide ((i' : Int) < (A.length : Int)) = true := decide_eq_true i4
                have i41 : (1 : Int) ≤ (i' : Int) := by omega
                have c0 := own_kp0 HOg.out hlt4
                have c1 := own_kp0 HOg.out (i := i' - 1) (by omega)
                have HL : Hid (∀ x y, A[i' - 1].n = y → A[i'].n = x → ((y ≠ x → ∀ j, (h : j + 1 < A.length) → j + 1 < i' + 1 → A[j].n ≠ A[j + 1].n) ∧ (y = x → twinB A = true))) := by
                  intro x y hy hx
                  obtain ⟨m, rfl⟩ : ∃ m, i' = m + 1 := ⟨i' - 1, by omega⟩
                  simp at hy
                  refine ⟨fun hne j hj hjk => ?_, fun he => ?_⟩
                  · by_cases e : j = m
                    · subst e; rw [hy, hx]; exact hne
                    · exact HNO.out j hj (by omega)
                  · cases hr : twinB A
                    · exact absurd (by rw [hy, hx]; exact he) ((twinB_iff A).1 hr m hlt4)
                    · rfl
                have HX2 := hideIt (HL.out A[i'].n A[i' - 1].n rfl rfl)
                clear HL
                generalize A[i' - 1].n = y at *
                generalize A[i'].n = x at *
                obtain ⟨q, hq⟩ : ∃ q, q = i' - 1 := ⟨_, rfl⟩
                have hwr : IntKind.i64.wrap ((i' : Int) - 1) = (q : Int) := by rw [IntKind.wrap_i64]; omega
                have k4 : q < A.length := by omega
                rw [← hq] at c1
                clear hq
                by_cases hxy : y = x
                · have hb : (x == y) = true := by simp [hxy]
                  have HN := hideIt (HX2.out.2 hxy)
                  clear HX2 hxy
                  go_wp2_with fail
                  go_quiet (fail)
                  go_wp2
                  go_roundw
                  case rel => exact ⟨_, i' + 1, 9, by omega, by omega, rfl, by go_num, rfl, Or.inr ⟨rfl, by omega, HN.out⟩⟩
                  case measure => simp [intOf]; omega
                · have hb : (x == y) = false := by simp; omega
                  have HN := hideIt (HX2.out.1 hxy)
                  clear HX2 hxy
                  go_wp2_with fail
                  go_quiet (fail)
                  go_wp2
                  go_roundw
                  case rel => exact ⟨_, i' + 1, 0, by omega, by omega, rfl, by go_num, rfl, Or.inl ⟨rfl, by omega, HN.out⟩⟩
                  case measure => simp [intOf]; omega
              · have i4 : ¬ (i' : Int) < (A.length : Int) := by omega
                have i4d : decide ((i' : Int) < (A.length : Int)) = false := decide_eq_false i4
                have HTW : Hid (twinB A = false) := (twinB_iff A).2 (fun j h => HNO.out j h (by omega))
                have HMg : Hid (∀ V, SpQ V (.slice a l.length c) l → Calls Tryd.prog 20 #[.slice a l.length c] V fun e w' => ∃ v, e = .returned (.tuple #[v, .nilIface]) ∧ w'.ownsRow V.heap.size 23 7 v A.length (evCells (A.map Kp.e)) ∧ Below V.heap.size V w') := by
                  intro V hq
                  refine Calls.mono (merge_any _ l V hq (by omega) (fun i h h0 => by have := HALL.out i h h0; omega)) ?_
                  rintro e w' ⟨hb, ⟨h0, _⟩ | ⟨_, L', hp, hs, hrest⟩⟩
                  · exact absurd HFL.out h0
                  have hsame := srt_same hs (insAll_spec (pairsL l)).1 (hp.trans (insAll_spec (pairsL l)).2.symm)
                  rw [← HAE.out] at hsame
                  have ht' : twinB L' = false := by rw [hsame.1]; exact HTW.out
                  obtain rfl := hsame.2 ht'
                  rcases hrest with ⟨ht, _⟩ | ⟨_, v, rfl, ho⟩
                  · rw [ht'] at ht; cases ht
                  · exact ⟨v, rfl, ho, hb⟩
                have HBa := hideIt (fun V (hg : GlE V) => bare_any 0 V hg)
                rw [toldV_zero] at HBa
                have HO5 := hideIt (HOg.out.kept (grown_of_below (below_drewN (Below.refl W.heap.size W) n) none) (own_anyM _))
                have HX5 := hideIt (below_drewN HX.out n)
                clear HNO
                go_wp2
                go_loopw [11, 12] (fun x i wq => ∃ m : Nat, m ≤ A.length ∧ i = .int .i64 m ∧ wq.ownsRow w.heap.size 24 7 x m (evCells ((A.take m).map Kp.e)) ∧ wq.ownsRow w.heap.size 58 8 (.slice (some ⟨g, 0, none⟩) A.length cv) A.length (kpCells A) ∧ Below w.heap.size w wq) (fun _ i _ => A.length - (intOf i).toNat)
                case atStart => exact ⟨0, Nat.zero_le _, rfl, World.ownsRow_nil _ _ _ _, HO5.out, HX5.out⟩
                case round =>
                  obtain ⟨m, hm, rfl, hwn, hall5, hnx5⟩ := hrel
                  have HWn := hideIt hwn
                  have HAl := hideIt hall5
                  have HXn := hideIt hnx5
                  have hszn := hnx5.size
                  obtain ⟨aw, cw, rfl⟩ := own_shapeX hwn
                  clear hwn hall5 hnx5
                  by_cases hmt : m < A.length
                  · have m1 : (m : Int) < (A.length : Int) := by omega
                    have m1d : decide ((m : Int) < (A.length : Int)) = true := decide_eq_true m1
                    obtain ⟨_, c1, c2, c3, c4, c5, c6, c7⟩ := own_kps HAl.out m hmt
                    rw [Nat.zero_add] at c1 c2 c3 c4 c5 c6 c7
                    have HT : Hid (evCells ((A.take (m + 1)).map Kp.e) = evCells ((A.take m).map Kp.e) ++ A[m].e.cells) := by
                      show evCells ((A.take (m + 1)).map Kp.e) = evCells ((A.take m).map Kp.e) ++ A[m].e.cells
                      rw [List.take_succ_eq_append_getElem hmt, List.map_append]
                      exact evCells_snoc _ _
                    generalize A[m] = x at *
                    go_wp2_with (at_builtin; refine wpList_append_own _ rfl _ _ 25 rfl w.heap.size 24 j0 _ 7 56 Tryd.underlying25 hj0 hy0 hy1 hy2 rfl (by decide) _ _ _ rfl (HWn.out.alloc _) ⟨wr.heap.size, 0, none⟩ 1 1 [.int .i64 x.e.p, .int .i64 x.e.t, .int .i64 x.e.k, .int .i64 x.e.d, .int .i64 x.e.a, .int .i64 x.e.b, .int .i64 x.e.r] rfl rfl ?b1 ?b2 ?b3 ?b4 ?b5 ?_)
                    case b1 =>
                      intro j u hj
                      exact new_at rfl (by simpa using hj)
                    case b2 => intro u hu; simp at hu; rcases hu with rfl | rfl | rfl | rfl | rfl | rfl | rfl <;> rfl
                    case b3 => unfold maxLen; omega
                    case b4 => omega
                    case b5 => simp; omega
                    intro v3 w3 ho3 hg3 _
                    have R1 : Hid (w3.ownsRow w.heap.size 24 7 v3 (m + 1) (evCells ((A.take (m + 1)).map Kp.e))) := by
                      show w3.ownsRow w.heap.size 24 7 v3 (m + 1) (evCells ((A.take (m + 1)).map Kp.e))
                      rw [HT.out]; first | exact ho3 | (rw [List.map_take]; exact ho3)
                    have R2 : Hid (Below w.heap.size w w3) := (below_alloc HXn.out _).grown hg3 (by simp; omega) (fun g hg => (HWn.out.lt g hg).1)
                    have R3 : Hid (w3.ownsRow w.heap.size 58 8 (.slice (some ⟨g, 0, none⟩) A.length cv) A.length (kpCells A)) := own_apart (HAl.out.alloc _) (HWn.out.alloc _) (by decide) hg3
                    clear ho3 hg3
                    go_wp2
                    go_roundw
                    case rel => exact ⟨m + 1, by omega, by go_num, R1.out, R3.out, R2.out⟩
                    case measure => simp [intOf]; omega
                  · have m1 : ¬ (m : Int) < (A.length : Int) := by omega
                    have m1d : decide ((m : Int) < (A.length : Int)) = false := decide_eq_false m1
                    have hml : m = A.length := by omega
                    have HWQ : Hid (EvQ wr (.slice aw m cw) (A.map Kp.e)) := by
                      have := HWn.out
                      rw [hml, List.take_length] at this
                      rw [hml]
                      exact ownT_evq (by rw [List.length_map]; exact this)
                    clear hml
                    go_wp2_with fail
                    refine (HMg.out _ (HQ.out.low HXn.out)).mono ?_
                    rintro x w5 ⟨v5, rfl, ho5, hb5⟩
                    have HB5 := hideIt (below_join HXn.out hb5)
                    have HM5 := hideIt (ownT_evq (l := A.map Kp.e) (by rw [List.length_map]; exact ho5))
                    obtain ⟨a5, c5, rfl⟩ := own_shapeX ho5
                    have HW5 := hideIt (EvQ.low HWQ.out hb5)
                    clear hb5 ho5
                    go_wp2_with fail
                    refine (HBa.out _ (HG.out.below HB5.out)).mono ?_
                    rintro x w6 ⟨rfl, hb6⟩
                    have HB6 := hideIt (below_join HB5.out hb6)
                    have HM6 := hideIt (HM5.out.low hb6)
                    have HW6 := hideIt (HW5.out.low hb6)
                    clear hb6
                    go_wp2_with fail
                    refine (sameEvents_true _ _ (A.map Kp.e) _ HM6.out HW6.out (by rw [List.length_map]; omega)).mono ?_
                    rintro x w7 ⟨rfl, hb7⟩
                    have HB7 := hideIt (below_join HB6.out hb7)
                    clear hb7
                    go_wp2
                    go_ret
                    exact ⟨rfl, HB7.out⟩
            · have HTW := hideIt htw
              clear htw
              have n0 : 0 < A.length := by
                rcases Nat.eq_zero_or_pos A.length with h | h
                · have := HTW.out; rw [List.eq_nil_of_length_eq_zero h] at this; cases this
                · exact h
              have n0d : decide (0 < A.length) = true := decide_eq_true n0
              have n0' : (0 : Int) < (A.length : Int) := by omega
              have n0d' : decide ((0 : Int) < (A.length : Int)) = true := decide_eq_true n0'
              have HXn := hideIt (below_drewN HX.out n)
              rw [HAE.out] at HTW
              have HMg : Hid (∀ W, SpQ W (.slice a l.length c) l → Calls Tryd.prog 20 #[.slice a l.length c] W fun e w' => e = .returned (.tuple #[.slice none 0 0, .iface 28 (.int .i64 9)]) ∧ Below W.heap.size W w') := by
                intro W hq
                refine Calls.mono (merge_any _ l W hq (by omega) (fun i h h0 => by have := HALL.out i h h0; omega)) ?_
                rintro e w' ⟨hb, hcase⟩
                rcases hcase with ⟨h0, _⟩ | ⟨_, L', hp, hs, ⟨_, rfl⟩ | ⟨ht, _⟩⟩
                · exact absurd HFL.out h0
                · exact ⟨rfl, hb⟩
                · have := (srt_same hs (insAll_spec (pairsL l)).1 (hp.trans (insAll_spec (pairsL l)).2.symm)).1
                  rw [ht, HTW.out] at this; cases this
              have HBa := hideIt (fun W (hg : GlE W) => bare_any 9 W hg)
              rw [told9] at HBa
              by_cases hlt4 : i' < A.length
              · have i4 : (i' : Int) < (A.length : Int) := by omega
                have i4d : decide ((i' : Int) < (A.length : Int)) = true := decide_eq_true i4
                go_wp2_with fail
                refine wp_loop_rounds 1 ?_
                rw [rounds_succ]
                go_wp2_with fail
                refine (HMg.out _ (HQ.out.low HXn.out)).mono ?_
                rintro x w5 ⟨rfl, hb5⟩
                have HB5 := hideIt (below_join HXn.out hb5)
                clear hb5
                go_wp2_with fail
                refine (HBa.out _ (HG.out.below HB5.out)).mono ?_
                rintro x w6 ⟨rfl, hb6⟩
                have HB6 := hideIt (below_join HB5.out hb6)
                clear hb6
                go_wp2_with fail
                refine (sameEvents_true _ _ [] _ evq_nil evq_nil (by simp)).mono ?_
                rintro x w7 ⟨rfl, hb7⟩
                have HB7 := hideIt (below_join HB6.out hb7)
                clear hb7
                go_wp2
                go_ret
                exact ⟨rfl, HB7.out⟩
              · have i4 : ¬ (i' : Int) < (A.length : Int) := by omega
                have i4d : decide ((i' : Int) < (A.length : Int)) = false := decide_eq_false i4
                go_wp2_with fail
                refine wp_loop_rounds 1 ?_
                rw [rounds_succ]
                go_wp2_with fail
                refine (HMg.out _ (HQ.out.low HXn.out)).mono ?_
                rintro x w5 ⟨rfl, hb5⟩
                have HB5 := hideIt (below_join HXn.out hb5)
                clear hb5
                go_wp2_with fail
                refine (HBa.out _ (HG.out.below HB5.out)).mono ?_
                rintro x w6 ⟨rfl, hb6⟩
                have HB6 := hideIt (below_join HB5.out hb6)
                clear hb6
                go_wp2_with fail
                refine (sameEvents_true _ _ [] _ evq_nil evq_nil (by simp)).mono ?_
                rintro x w7 ⟨rfl, hb7⟩
                have HB7 := hideIt (below_join HB6.out hb7)
                clear hb7
                go_wp2
                go_ret
                exact ⟨rfl, HB7.out⟩
      · have HV := hideIt hflt
        have HALL := hideIt hall
        clear hflt hall hkl
        have HMg : Hid (∀ W, SpQ W (.slice a l.length c) l → Calls Tryd.prog 20 #[.slice a l.length c] W fun e w' => e = .returned (.tuple #[.slice none 0 0, .iface 28 (.int .i64 10)]) ∧ Below W.heap.size W w') := by
          intro W hq
          refine Calls.mono (merge_any _ l W hq (by omega) (fun i h h0 => by have := HALL.out i h h0; omega)) ?_
          rintro e w' ⟨hb, hcase⟩
          rcases hcase with ⟨_, rfl⟩ | ⟨h0, _⟩
          · exact ⟨by rw [HV.out], hb⟩
          · rw [HV.out] at h0; exact absurd h0 (by decide)
        have HBa := hideIt (fun W (hg : GlE W) => bare_any 10 W hg)
        rw [told10] at HBa
        by_cases c1 : 1 < A.length
        · have c1' : (1 : Int) < (A.length : Int) := by omega
          have c1d : decide ((1 : Int) < (A.length : Int)) = true := decide_eq_true c1'
          have c0 : 0 < A.length := by omega
          have c0d : decide (0 < A.length) = true := decide_eq_true c0
          have c0' : (0 : Int) < (A.length : Int) := by omega
          have c0d' : decide ((0 : Int) < (A.length : Int)) = true := decide_eq_true c0'
          go_wp2_with fail
          refine wp_loop_rounds 1 ?_
          rw [rounds_succ]
          go_wp2_with fail
          refine wp_loop_rounds 1 ?_
          rw [rounds_succ]
          go_wp2_with fail
          refine (HMg.out _ (HQ.out.low HX.out)).mono ?_
          rintro x w5 ⟨rfl, hb5⟩
          have HB5 := hideIt (below_join HX.out hb5)
          clear hb5
          go_wp2_with fail
          refine (HBa.out _ (HG.out.below HB5.out)).mono ?_
          rintro x w6 ⟨rfl, hb6⟩
          have HB6 := hideIt (below_join HB5.out hb6)
          clear hb6
          go_wp2_with fail
          refine (sameEvents_true _ _ [] _ evq_nil evq_nil (by simp)).mono ?_
          rintro x w7 ⟨rfl, hb7⟩
          have HB7 := hideIt (below_join HB6.out hb7)
          clear hb7
          go_wp2
          go_ret
          exact ⟨rfl, HB7.out⟩
        · have c1' : ¬ (1 : Int) < (A.length : Int) := by omega
          have c1d : decide ((1 : Int) < (A.length : Int)) = false := decide_eq_false c1'
          by_cases c0 : 0 < A.length
          · have c0d : decide (0 < A.length) = true := decide_eq_true c0
            have c0' : (0 : Int) < (A.length : Int) := by omega
            have c0d' : decide ((0 : Int) < (A.length : Int)) = true := decide_eq_true c0'
            go_wp2_with fail
            refine wp_loop_rounds 1 ?_
            rw [rounds_succ]
            go_wp2_with fail
            refine wp_loop_rounds 1 ?_
            rw [rounds_succ]
            go_wp2_with fail
            refine (HMg.out _ (HQ.out.low HX.out)).mono ?_
            rintro x w5 ⟨rfl, hb5⟩
            have HB5 := hideIt (below_join HX.out hb5)
            clear hb5
            go_wp2_with fail
            refine (HBa.out _ (HG.out.below HB5.out)).mono ?_
            rintro x w6 ⟨rfl, hb6⟩
            have HB6 := hideIt (below_join HB5.out hb6)
            clear hb6
            go_wp2_with fail
            refine (sameEvents_true _ _ [] _ evq_nil evq_nil (by simp)).mono ?_
            rintro x w7 ⟨rfl, hb7⟩
            have HB7 := hideIt (below_join HB6.out hb7)
            clear hb7
            go_wp2
            go_ret
            exact ⟨rfl, HB7.out⟩
          · have c0d : decide (0 < A.length) = false := decide_eq_false c0
            have c0' : ¬ (0 : Int) < (A.length : Int) := by omega
            have c0d' : decide ((0 : Int) < (A.length : Int)) = false := decide_eq_false c0'
            go_wp2_with fail
            refine wp_loop_rounds 1 ?_
            rw [rounds_succ]
            go_wp2_with fail
            refine wp_loop_rounds 1 ?_
            rw [rounds_succ]
            go_wp2_with fail
            refine (HMg.out _ (HQ.out.low HX.out)).mono ?_
            rintro x w5 ⟨rfl, hb5⟩
            have HB5 := hideIt (below_join HX.out hb5)
            clear hb5
            go_wp2_with fail
            refine (HBa.out _ (HG.out.below HB5.out)).mono ?_
            rintro x w6 ⟨rfl, hb6⟩
            have HB6 := hideIt (below_join HB5.out hb6)
            clear hb6
            go_wp2_with fail
            refine (sameEvents_true _ _ [] _ evq_nil evq_nil (by simp)).mono ?_
            rintro x w7 ⟨rfl, hb7⟩
            have HB7 := hideIt (below_join HB6.out hb7)
            clear hb7
            go_wp2
            go_ret
            exact ⟨rfl, HB7.out⟩

set_option maxRecDepth 100000 in
theorem merges_any (v : Value) (l : List Spe) (w : World) (hq : SpQ w v l) (hG : GlE w) :
    Calls Tryd.prog 6 #[v] w fun r w' => r = .returned (.bool true) ∧ Below w.heap.size w w' := by
  by_cases h20 : l.length ≤ 20
  · exact merges_walk v l w hq hG h20
  · obtain ⟨a, c, rfl, hc, hA⟩ := hq
    have h20' : (20 : Int) < (l.length : Int) := by omega
    clear hA
    go_enter Tryd.func6, Tryd.ntmps6
    go_wp2
    go_ret
    exact ⟨rfl, Below.refl _ _⟩

end Go.Proofs.YtdncnljcihblbaaDoor
