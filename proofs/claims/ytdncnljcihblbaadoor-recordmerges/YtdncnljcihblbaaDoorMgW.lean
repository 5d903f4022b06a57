/-
  Stripes in memory, and Merge: walked.
-/
import Derived.Test.YtdncnljcihblbaaDoorMgS
import Derived.Test.YtdncnljcihblbaaDoorRiW
namespace Go.Proofs.YtdncnljcihblbaaDoor
open Go.RowKit

/-- A stripe at a place: two slices. -/
def SpAt (w : World) (b off : Nat) (s : Spe) : Prop := ∃ v1 v2, w.cell? ⟨b, off, none⟩ = some v1 ∧ w.cell? ⟨b, off + 1, none⟩ = some v2 ∧ InQ w v1 s.tk ∧ EvQ w v2 s.ev
/-- A row of stripes. -/
def SpQ (w : World) (v : Value) (l : List Spe) : Prop := ∃ a cap, v = .slice a l.length cap ∧ l.length ≤ cap ∧ (l = [] ∨ ∃ b off, a = some ⟨b, off, none⟩ ∧ b < w.heap.size ∧ ∀ i, (h : i < l.length) → SpAt w b (off + i * 2) l[i])

theorem InQ.low {w w' : World} {v : Value} {l : List Int} (h : InQ w v l) (hn : Below w.heap.size w w') : InQ w' v l := by
  obtain ⟨a, c, h1, h2, h3 | ⟨b, o, h4, h5, h6⟩⟩ := h
  · exact ⟨a, c, h1, h2, Or.inl h3⟩
  · exact ⟨a, c, h1, h2, Or.inr ⟨b, o, h4, Nat.lt_of_lt_of_le h5 hn.size, fun i hi => (hn.cell (p := ⟨b, o + i, none⟩) h5).trans (h6 i hi)⟩⟩
theorem EvQ.lowM {w w' : World} {v : Value} {l : List Ev} (h : EvQ w v l) (hn : Below w.heap.size w w') : EvQ w' v l := by
  obtain ⟨a, c, h1, h2, h3 | ⟨b, o, h4, h5, h6⟩⟩ := h
  · exact ⟨a, c, h1, h2, Or.inl h3⟩
  · exact ⟨a, c, h1, h2, Or.inr ⟨b, o, h4, Nat.lt_of_lt_of_le h5 hn.size, fun i hi => (h6 i hi).below h5 hn⟩⟩
theorem infoK : (Tryd.prog.info? 80).map (fun i => (i.zero, i.size, i.bytes)) = some (some (.agg #[.int .i64 0, .int .i64 0, .int .i64 0, .int .i64 0, .int .i64 0, .int .i64 0, .int .i64 0, .int .i64 0]), 8, 64) := by kernel_rfl
theorem own_shapeK {W : World} {base : Nat} {e : TypeId} {z : Nat} {v : Value} {n : Nat} {xs : List Value} (h : W.ownsRow base e z v n xs) : (v = .slice none 0 0 ∧ n = 0) ∨ ∃ g c, v = .slice (some ⟨g, 0, none⟩) n c ∧ base ≤ g ∧ g < W.heap.size := by
  obtain ⟨_, ⟨rfl, h0⟩ | ⟨g, c, _, rfl, h1, h2, _⟩⟩ := h
  · exact Or.inl ⟨rfl, h0⟩
  · exact Or.inr ⟨g, c, rfl, h1, (Array.getElem?_eq_some_iff.1 h2).1⟩

/-- The events of so many stripes, and of so many of the next one. -/
def prsK (l : List Spe) (i j : Nat) : List Kp := pairsL (l.take i) ++ (match l[i]? with | some s => (pairL s).take j | none => [])
theorem prsK_zero (l : List Spe) (i : Nat) : prsK l i 0 = pairsL (l.take i) := by
  unfold prsK
  cases l[i]? <;> simp
theorem prsK_next {l : List Spe} {i : Nat} (hi : i < l.length) {n : Nat} (hn : (pairL l[i]).length ≤ n) : prsK l i n = pairsL (l.take (i + 1)) := by
  unfold prsK
  rw [List.getElem?_eq_getElem hi]
  show pairsL (l.take i) ++ (pairL l[i]).take n = _
  rw [List.take_of_length_le hn, List.take_succ_eq_append_getElem hi]
  unfold pairsL
  rw [List.flatMap_append]
  simp
theorem prsK_snoc {l : List Spe} {i j : Nat} (hi : i < l.length) (h1 : j < l[i].tk.length) (h2 : j < l[i].ev.length) : prsK l i (j + 1) = prsK l i j ++ [⟨l[i].tk[j], l[i].ev[j]⟩] := by
  unfold prsK
  rw [List.getElem?_eq_getElem hi]
  show pairsL (l.take i) ++ (pairL l[i]).take (j + 1) = (pairsL (l.take i) ++ (pairL l[i]).take j) ++ _
  unfold pairL
  have hj : j < (List.zipWith Kp.mk l[i].tk l[i].ev).length := by rw [List.length_zipWith]; omega
  rw [List.take_succ_eq_append_getElem hj, List.append_assoc, List.getElem_zipWith]

/-- A block of another type stays where a row is turned. -/
theorem keptT {W W' : World} {base k z : Nat} {E : TypeId} {v : Value} {n : Nat} {xs : List Value} {cs : Array Value} {t : TypeId} {fr : Nat × Nat} (ho : W.ownsRow base E z v n xs) (hk : W.heap[k]? = some (.cells cs t fr)) (hg : W.grownBy W' v.ownBlock) (ht : t ≠ E) : W'.heap[k]? = some (.cells cs t fr) := by
  rw [← hk]
  refine hg.block k (Array.getElem?_eq_some_iff.1 hk).1 (fun e => ?_)
  obtain ⟨_, ⟨rfl, _⟩ | ⟨g, c, cur, rfl, _, h5, _⟩⟩ := ho
  · cases e
  · cases e; rw [hk] at h5; cases h5; exact ht rfl
theorem allocT {W : World} {k : Nat} {o : Obj} (h : W.heap[k]? = some o) (o' : Obj) : (W.alloc o').heap[k]? = some o := by
  rw [Below.heap_alloc W o' k (Array.getElem?_eq_some_iff.1 h).1]; exact h
theorem own_anyM (v : Value) : v.ownBlock = none ∨ v.ownBlock ≠ none := by cases v.ownBlock <;> simp

/-- What Merge tells. -/
def MgT (w : World) (l : List Spe) (e : Ending) (w' : World) : Prop :=
  Below w.heap.size w w' ∧ ((fltSs l ≠ 0 ∧ e = .returned (.tuple #[.slice none 0 0, .iface 28 (.int .i64 (fltSs l))])) ∨
    (fltSs l = 0 ∧ ∃ L : List Kp, L.Perm (pairsL l) ∧ Srt L ∧ ((twinB L = true ∧ e = .returned (.tuple #[.slice none 0 0, .iface 28 (.int .i64 9)])) ∨ (twinB L = false ∧ ∃ v, e = .returned (.tuple #[v, .nilIface]) ∧ w'.ownsRow w.heap.size 23 7 v L.length (evCells (L.map Kp.e))))))

theorem fltSs_take {l : List Spe} : ∀ {i : Nat}, (h : i < l.length) → fltSs (l.take i) = 0 → fltS l[i] ≠ 0 → fltSs l = fltS l[i] := by
  induction l with
  | nil => intro i h; simp at h
  | cons s r ih =>
    intro i h h0 hs
    cases i with
    | zero => simp only [List.getElem_cons_zero] at hs ⊢; rw [fltSs, if_neg hs]
    | succ i =>
      simp only [List.take_succ_cons, List.getElem_cons_succ] at h0 hs ⊢
      rw [fltSs] at h0
      by_cases hf : fltS s = 0
      · rw [if_pos hf] at h0; rw [fltSs, if_pos hf]; exact ih (by simpa using h) h0 hs
      · rw [if_neg hf] at h0; exact absurd h0 hf
theorem fltSs_snoc {l : List Spe} : ∀ {i : Nat}, (h : i < l.length) → fltSs (l.take i) = 0 → fltS l[i] = 0 → fltSs (l.take (i + 1)) = 0 := by
  induction l with
  | nil => intro i h; simp at h
  | cons s r ih =>
    intro i h h0 hs
    cases i with
    | zero => simp only [List.getElem_cons_zero] at hs; simp [fltSs, hs]
    | succ i =>
      simp only [List.take_succ_cons, List.getElem_cons_succ] at h0 hs ⊢
      rw [fltSs] at h0 ⊢
      by_cases hf : fltS s = 0
      · rw [if_pos hf] at h0 ⊢; exact ih (by simpa using h) h0 hs
      · rw [if_neg hf] at h0; exact absurd h0 hf

set_option maxHeartbeats 8000000 in
set_option maxRecDepth 100000 in
theorem merge_any (v : Value) (l : List Spe) (w : World) (hq : SpQ w v l) (hl : l.length ≤ 100) (hsm : ∀ i, (h : i < l.length) → fltSs (l.take i) = 0 → l[i].tk.length ≤ 200 ∧ l[i].ev.length ≤ 200) :
    Calls Tryd.prog 20 #[v] w fun e w' => MgT w l e w' := by
  obtain ⟨i0, hi, hz0, hz1, hz2⟩ := info_parts' infoK
  obtain ⟨a, c, rfl, hc, hA⟩ := hq
  have HA := hideIt hA
  have HSM := hideIt hsm
  clear hA hsm
  go_enter Tryd.func20, Tryd.ntmps20
  go_wp2
  go_loopw [4, 11] (fun x i wr => ∃ k : Nat, k ≤ l.length ∧ i = .int .i64 k ∧ fltSs (l.take k) = 0 ∧ (pairsL (l.take k)).length ≤ k * 200 ∧ wr.ownsRow w.heap.size 80 8 x (pairsL (l.take k)).length (kpCells (pairsL (l.take k))) ∧ Below w.heap.size w wr) (fun _ i _ => l.length - (intOf i).toNat)
  case atStart => exact ⟨0, Nat.zero_le _, rfl, rfl, Nat.zero_le _, World.ownsRow_nil _ _ _ _, Below.refl _ _⟩
  case round =>
    obtain ⟨k, hk, rfl, hflt, hfew, hown, hnx⟩ := hrel
    have HF := hideIt hflt
    have HO := hideIt hown
    have HX := hideIt hnx
    have hsz := hnx.size
    clear hflt hown hnx
    by_cases hlt : k < l.length
    · rcases HA.out with h0 | ⟨b, o, rfl, hb, hat⟩
      · rw [h0] at hlt; exact absurd hlt (Nat.not_lt_zero _)
      have hki : (k : Int) < (l.length : Int) := by omega
      have hkd : decide ((k : Int) < (l.length : Int)) = true := decide_eq_true hki
      obtain ⟨v1, v2, s1, s2, hi1, he2⟩ := hat k hlt
      have s1' := (HX.out.cell (p := ⟨b, o + k * 2, none⟩) hb).trans s1
      have s2' := (HX.out.cell (p := ⟨b, o + k * 2 + 1, none⟩) hb).trans s2
      have HI0 := hideIt hi1
      have HE0 := hideIt he2
      have HI1 := hideIt (hi1.low HX.out)
      have HE2 := hideIt (he2.lowM HX.out)
      obtain ⟨a1, c1, rfl, hc1, _⟩ := hi1
      obtain ⟨a2, c2, rfl, hc2, _⟩ := he2
      obtain ⟨t1, t2⟩ := HSM.out k hlt HF.out
      have HSP : Hid (∀ j, (h1 : j < l[k].tk.length) → (h2 : j < l[k].ev.length) → prsK l k (j + 1) = prsK l k j ++ [⟨l[k].tk[j], l[k].ev[j]⟩]) := fun j h1 h2 => prsK_snoc hlt h1 h2
      have HP0 := hideIt (prsK_zero l k)
      have HPN : Hid (∀ n, l[k].tk.length ≤ n → prsK l k n = pairsL (l.take (k + 1))) := fun n hn => prsK_next hlt (Nat.le_trans (by unfold pairL; rw [List.length_zipWith]; omega) hn)
      have HFS : Hid (fltS l[k] ≠ 0 → fltSs l = fltS l[k]) := fun h => fltSs_take hlt HF.out h
      have HFN : Hid (fltS l[k] = 0 → fltSs (l.take (k + 1)) = 0) := fun h => fltSs_snoc hlt HF.out h
      have hbz : b < wr.heap.size := by omega
      clear hat s1 s2
      generalize l[k] = s at *
      by_cases hlen : s.tk.length = s.ev.length
      · have hne : (((s.tk.length : Nat) : Int) != ((s.ev.length : Nat) : Int)) = false := by simp [hlen]
        have HRi := hideIt (fun W (hq : InQ W (.slice a1 s.tk.length c1) s.tk) => rise_any (.slice a1 s.tk.length c1) s.tk W hq (by omega))
        have HLE := hideIt hlen
        clear hlen
        cases hr : riseB s.tk with
        | false =>
          have hfs : fltS s = 10 := by unfold fltS; rw [if_neg (fun h => h HLE.out), hr]; rfl
          have HV : Hid (fltSs l = 10) := by show fltSs l = 10; rw [HFS.out (by rw [hfs]; decide), hfs]
          rw [hr] at HRi
          clear hfs
          go_wp2_with fail
          refine (HRi.out _ (HI1.out.low (below_alloc (Below.refl _ _) _))).mono ?_
          rintro x w1 ⟨rfl, n1, rfl⟩
          go_wp2
          go_ret2
          exact ⟨below_drewN (below_alloc HX.out _) n1, Or.inl ⟨by rw [HV.out]; decide, by rw [HV.out]; rfl⟩⟩
        | true =>
          have hfs : fltS s = 0 := by unfold fltS; rw [if_neg (fun h => h HLE.out), hr]; rfl
          have HF2 := hideIt (HFN.out hfs)
          rw [hr] at HRi
          clear hfs
          go_wp2_with fail
          refine (HRi.out _ (HI1.out.low (below_alloc (Below.refl _ _) _))).mono ?_
          rintro x w1 ⟨rfl, n1, rfl⟩
          generalize hW1 : World.drewN _ n1 = W1
          have hS1 : W1.heap[wr.heap.size]? = some (.cells #[.slice a1 s.tk.length c1, .slice a2 s.ev.length c2] 56 (0, 0)) := by rw [← hW1]; exact heap_alloc_new wr _
          have HX1 : Hid (Below w.heap.size w W1) := by rw [← hW1]; exact below_drewN (below_alloc HX.out _) n1
          have HO1 : Hid (W1.ownsRow w.heap.size 80 8 u4 (prsK l k 0).length (kpCells (prsK l k 0))) := by
            show W1.ownsRow w.heap.size 80 8 u4 (prsK l k 0).length (kpCells (prsK l k 0))
            rw [HP0.out, ← hW1]; exact (HO.out.alloc _).kept (grown_of_below (below_drewN (Below.refl _ _) n1) none) (own_anyM _)
          have hzw : wr.heap.size < W1.heap.size := by rw [← hW1]; simp [go_sem]
          have hP0l : (prsK l k 0).length ≤ k * 200 := by rw [HP0.out]; exact hfew
          obtain ⟨S, hS⟩ : ∃ S, S = wr.heap.size := ⟨_, rfl⟩
          rw [← hS] at hS1 hzw ⊢
          have HS1 := hideIt hS1
          have p0 := cell_of_row W1 _ 0 _ _ _ hS1
          have p1 := cell_of_row W1 _ 1 _ _ _ hS1
          simp at p0 p1
          have hle2 : s.tk.length ≤ s.ev.length := by have := HLE.out; omega
          clear hS1 hW1 s1' s2' hS hsz hbz HI1 HE2 HO HX HRi
          go_wp2
          go_loopw [4, 31] (fun x i wq => ∃ j : Nat, j ≤ s.tk.length ∧ i = .int .i64 j ∧ (prsK l k j).length ≤ k * 200 + j ∧ wq.ownsRow w.heap.size 80 8 x (prsK l k j).length (kpCells (prsK l k j)) ∧ Below w.heap.size w wq ∧ S < wq.heap.size ∧ wq.heap[S]? = some (.cells #[.slice a1 s.tk.length c1, .slice a2 s.ev.length c2] 56 (0, 0))) (fun _ i _ => s.tk.length - (intOf i).toNat)
          case atStart => exact ⟨0, Nat.zero_le _, rfl, by omega, HO1.out, HX1.out, hzw, HS1.out⟩
          case round =>
            obtain ⟨j, hj, rfl, hjl, hown, hnx, hzq, hobj⟩ := hrel
            have HOq := hideIt hown
            have HXq := hideIt hnx
            have HSq := hideIt hobj
            have hszq := hnx.size
            have p1q := cell_of_row wr _ 1 _ _ _ hobj
            simp at p1q
            clear hown hnx hobj p0 p1 HX1 HO1 HS1
            by_cases hjt : j < s.tk.length
            · have hjt2 : j < s.ev.length := by omega
              have hji : (j : Int) < (s.tk.length : Int) := by omega
              have hji2 : (j : Int) < (s.ev.length : Int) := by omega
              obtain ⟨a1', c1', e1, _, h0 | ⟨b1, o1, rfl, hb1, hc1t⟩⟩ := HI0.out
              · rw [h0] at hjt; exact absurd hjt (Nat.not_lt_zero _)
              injection e1 with e1 e1b e1c
              clear e1b e1c
              subst e1
              obtain ⟨a2', c2', e2, _, h0 | ⟨b2, o2, rfl, hb2, hc2t⟩⟩ := HE0.out
              · rw [h0] at hjt2; exact absurd hjt2 (Nat.not_lt_zero _)
              injection e2 with e2 e2b e2c
              clear e2b e2c
              subst e2
              have x1 := (HXq.out.cell (p := ⟨b1, o1 + j, none⟩) hb1).trans (hc1t j hjt)
              obtain ⟨y0, y1, y2, y3, y4, y5, y6⟩ := (hc2t j hjt2).below hb2 HXq.out
              have HSN := hideIt (HSP.out j hjt hjt2)
              clear hc1t hc2t
              generalize s.tk[j] = tk at *
              generalize s.ev[j] = ev at *
              go_wp2_with (at_builtin; refine wpList_append_own _ rfl _ _ 77 rfl w.heap.size 80 i0 _ 8 64 Tryd.underlying77 hi hz0 hz1 hz2 rfl (by decide) _ _ _ rfl (HOq.out.alloc _) ⟨wr.heap.size, 0, none⟩ 1 1 [.int .i64 tk, .int .i64 ev.p, .int .i64 ev.t, .int .i64 ev.k, .int .i64 ev.d, .int .i64 ev.a, .int .i64 ev.b, .int .i64 ev.r] rfl rfl ?c1 ?c2 ?c3 ?c4 ?c5 ?_)
              case c1 =>
                intro j' u hj'
                exact new_at rfl (by simpa using hj')
              case c2 => first | exact ⟨rfl, rfl, rfl, rfl, rfl, rfl, rfl, rfl⟩ | (intro u hu; simp at hu; rcases hu with rfl | rfl | rfl | rfl | rfl | rfl | rfl | rfl <;> rfl)
              case c3 => unfold maxLen; omega
              case c4 => omega
              case c5 => first | omega | (simp; omega)
              intro v3 w3 ho3 hg3 _
              have R1 : Hid (w3.ownsRow w.heap.size 80 8 v3 (prsK l k (j + 1)).length (kpCells (prsK l k (j + 1)))) := by
                show w3.ownsRow w.heap.size 80 8 v3 (prsK l k (j + 1)).length (kpCells (prsK l k (j + 1)))
                rw [HSN.out, kpCells_snoc, List.length_append]; exact ho3
              have R2 : Hid (Below w.heap.size w w3) := (below_alloc HXq.out _).grown hg3 (by simp; omega) (fun g hg => (HOq.out.lt g hg).1)
              have R3 : Hid (w3.heap[S]? = some (.cells #[.slice (some ⟨b1, o1, none⟩) s.tk.length c1, .slice (some ⟨b2, o2, none⟩) s.ev.length c2] 56 (0, 0))) := keptT (HOq.out.alloc _) (allocT HSq.out _) hg3 (by decide)
              have R4 : S < w3.heap.size := by have := hg3.size; simp at this; omega
              have R5 : (prsK l k (j + 1)).length ≤ k * 200 + (j + 1) := by rw [HSN.out, List.length_append]; simp; omega
              clear ho3 hg3
              go_wp2
              go_roundw
              case rel => exact ⟨j + 1, by omega, by go_num, R5, R1.out, R2.out, R4, R3.out⟩
              case measure => simp [intOf]; omega
            · have hjn : ¬ (j : Int) < (s.tk.length : Int) := by omega
              have HE := hideIt (HPN.out j (by omega))
              go_wp2
              go_roundw
              case rel => exact ⟨k + 1, by omega, by go_num, HF2.out, by rw [← HE.out]; omega, by rw [← HE.out]; exact HOq.out, HXq.out⟩
              case measure => simp [intOf]; omega
      · have hne : (((s.tk.length : Nat) : Int) != ((s.ev.length : Nat) : Int)) = true := by simp; omega
        have hfs : fltS s = 3 := by unfold fltS; rw [if_pos hlen]
        have HV : Hid (fltSs l = 3) := by show fltSs l = 3; rw [HFS.out (by rw [hfs]; decide), hfs]
        clear hfs hlen
        go_wp2
        go_ret2
        exact ⟨below_alloc HX.out _, Or.inl ⟨by rw [HV.out]; decide, by rw [HV.out]; rfl⟩⟩
    · have hkl : k = l.length := by omega
      have HPL : Hid (pairsL (l.take k) = pairsL l) := by show pairsL (l.take k) = pairsL l; rw [hkl, List.take_length]
      have HFL : Hid (fltSs l = 0) := by have := HF.out; rw [hkl, List.take_length] at this; exact this
      have hkn : ¬ (k : Int) < (l.length : Int) := by omega
      rw [HPL.out] at HO hfew
      generalize hL : pairsL l = L at *
      rcases own_shapeK HO.out with ⟨rfl, hn0⟩ | ⟨g, cg, rfl, hbg, hgz⟩
      · have hLe : L = [] := List.eq_nil_of_length_eq_zero hn0
        go_wp2_with fail
        refine (sort_none none 0 _ _).mono ?_
        rintro x w1 ⟨rfl, rfl⟩
        go_wp2_with fail
        refine (once_none _).mono ?_
        rintro x w2 ⟨hb2, ⟨ht, _⟩ | ⟨_, v2, rfl, ho2⟩⟩
        · cases ht
        have HB2 := hideIt (below_join HX.out hb2)
        have HO2 := hideIt (own_mono ho2 HX.out.size)
        clear hb2 ho2
        go_wp2
        go_ret2
        exact ⟨HB2.out, Or.inr ⟨HFL.out, [], by rw [hL, hLe], List.Pairwise.nil, Or.inr ⟨rfl, v2, rfl, HO2.out⟩⟩⟩
      · have HSo := hideIt (sortK_list g cg w.heap.size w.heap.size L wr (by omega) HO.out hbg HX.out.size hgz)
        go_wp2_with fail
        refine HSo.out.mono ?_
        rintro x w1 ⟨rfl, L', hp, hlen, hpw, hat, hz1', hb1⟩
        have HB1 := hideIt (HX.out.trans hb1)
        have hon := once_any g cg L' w1 hat (by omega) (by omega)
        rw [hlen] at hon
        have HOn := hideIt hon
        have HPm := hideIt hp
        have HPw := hideIt hpw
        clear hon hat hb1 hp hpw hlen
        go_wp2_with fail
        refine HOn.out.mono ?_
        rintro x w2 ⟨hb2, ⟨ht, rfl⟩ | ⟨ht, v2, rfl, ho2⟩⟩
        · have HB2 := hideIt (below_join HB1.out hb2)
          clear hb2
          go_wp2
          go_ret2
          exact ⟨HB2.out, Or.inr ⟨HFL.out, L', by rw [hL]; exact HPm.out, HPw.out, Or.inl ⟨ht, rfl⟩⟩⟩
        · have HB2 := hideIt (below_join HB1.out hb2)
          have HO2 := hideIt (own_mono ho2 HB1.out.size)
          clear hb2 ho2
          go_wp2
          go_ret2
          exact ⟨HB2.out, Or.inr ⟨HFL.out, L', by rw [hL]; exact HPm.out, HPw.out, Or.inr ⟨ht, v2, rfl, HO2.out⟩⟩⟩

end Go.Proofs.YtdncnljcihblbaaDoor
