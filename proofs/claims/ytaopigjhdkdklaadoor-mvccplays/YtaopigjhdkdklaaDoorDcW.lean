/-
  The document's commit, walked.
-/
import Derived.Test.YtaopigjhdkdklaaDoorDbMZ
import Derived.Test.YtaopigjhdkdklaaDoorJwWZ
namespace Go.Proofs.YtaopigjhdkdklaaDoor
open Go.RowKit

def oldP (s : MvS) (t q : Nat) : Bool := (List.range q).any fun k => (s.ord k).any fun x => decide (0 < wrN (s.ops t) k) && decide (s.bg t < s.en x)
def oldQ (s : MvS) (t q m : Nat) : Bool := ((s.ord q).take m).any fun x => decide (0 < wrN (s.ops t) q) && decide (s.bg t < s.en x)
theorem oldP_succ (s : MvS) (t q : Nat) : oldP s t (q + 1) = (oldP s t q || oldQ s t q (s.ord q).length) := by simp [oldP, oldQ, List.range_succ, List.any_append]
theorem oldP_more (s : MvS) (t : Nat) {q : Nat} (hq : q < 8) (h : oldQ s t q (s.ord q).length = true) : oldP s t 8 = true := by
  unfold oldQ at h
  rw [List.take_length] at h
  exact List.any_eq_true.2 ⟨q, List.mem_range.2 hq, h⟩
theorem oldQ_succ {s : MvS} {t q m : Nat} (hm : m < (s.ord q).length) : oldQ s t q (m + 1) = (oldQ s t q m || (decide (0 < wrN (s.ops t) q) && decide (s.bg t < s.en (s.ord q)[m]))) := by
  unfold oldQ
  rw [List.take_add_one, List.getElem?_eq_getElem hm, List.any_append]
  simp
theorem oldQ_more {s : MvS} {t q m : Nat} (h : oldQ s t q (m + 1) = true) : oldQ s t q (s.ord q).length = true := by
  unfold oldQ at *
  rw [List.any_eq_true] at *
  obtain ⟨o, ho, h⟩ := h
  exact ⟨o, by rw [List.take_length]; exact List.mem_of_mem_take ho, h⟩
def nearB (s : MvS) (e : Nat → Int) (t m : Nat) : Bool := decide (m = t) || ptsB s e t m || ptsB s e m t
def inP (s : MvS) (e : Nat → Int) (m x : Nat) : Bool := (List.range x).any fun y => ptsB s e y m
def outP (s : MvS) (e : Nat → Int) (m x : Nat) : Bool := (List.range x).any fun y => ptsB s e m y
def pivP (s : MvS) (e : Nat → Int) (n t j : Nat) : Bool := (List.range j).any fun m => nearB s e t m && inP s e m n && outP s e m n
theorem inP_succ (s : MvS) (e : Nat → Int) (m x : Nat) : inP s e m (x + 1) = (inP s e m x || ptsB s e x m) := by simp [inP, List.range_succ, List.any_append]
theorem outP_succ (s : MvS) (e : Nat → Int) (m x : Nat) : outP s e m (x + 1) = (outP s e m x || ptsB s e m x) := by simp [outP, List.range_succ, List.any_append]
theorem pivP_succ (s : MvS) (e : Nat → Int) (n t j : Nat) : pivP s e n t (j + 1) = (pivP s e n t j || (nearB s e t j && inP s e j n && outP s e j n)) := by simp [pivP, List.range_succ, List.any_append]
theorem pivP_more {s : MvS} {e : Nat → Int} {n t j : Nat} (hj : j < n) (h : (nearB s e t j && inP s e j n && outP s e j n) = true) : pivP s e n t n = true := List.any_eq_true.2 ⟨j, List.mem_range.2 hj, h⟩
/-- Whether a commit is refused; the state behind one that isn't. -/
def refS (c : Bool) (n : Nat) (s : MvS) (t : Nat) : Bool := oldP s t 8 || (c && pivP s (updM s.en t s.tm) n t n)
def comS (s : MvS) (t : Nat) : MvS := { s with en := updM s.en t s.tm, com := updM s.com t true, ord := fun k => if 0 < wrN (s.ops t) k then s.ord k ++ [t] else s.ord k }
def ordJ (s : MvS) (t j : Nat) : Nat → List Nat := fun q => if q < j ∧ 0 < wrN (s.ops t) q then s.ord q ++ [t] else s.ord q
theorem ordJ_skip {s : MvS} {t j : Nat} (h : ¬ 0 < wrN (s.ops t) j) : ordJ s t (j + 1) = ordJ s t j := by
  funext q
  unfold ordJ
  by_cases e : q = j
  · subst e; rw [if_neg (fun h' => h h'.2), if_neg (fun h' => h h'.2)]
  · by_cases h1 : q < j
    · by_cases h2 : 0 < wrN (s.ops t) q
      · rw [if_pos ⟨by omega, h2⟩, if_pos ⟨h1, h2⟩]
      · rw [if_neg (fun h' => h2 h'.2), if_neg (fun h' => h2 h'.2)]
    · rw [if_neg (fun h' => by omega), if_neg (fun h' => by omega)]
theorem ordJ_own (s : MvS) (t j : Nat) : ordJ s t j j = s.ord j := by
  unfold ordJ
  rw [if_neg (fun h' => by omega)]
theorem ordJ_put {s : MvS} {t j : Nat} (h : 0 < wrN (s.ops t) j) : updM (ordJ s t j) j (ordJ s t j j ++ [t]) = ordJ s t (j + 1) := by
  funext q
  by_cases e : q = j
  · subst e
    rw [updM_same, ordJ_own]
    unfold ordJ
    rw [if_pos ⟨by omega, h⟩]
  · rw [updM_ne _ _ e]
    unfold ordJ
    by_cases h1 : q < j
    · by_cases h2 : 0 < wrN (s.ops t) q
      · rw [if_pos ⟨h1, h2⟩, if_pos ⟨by omega, h2⟩]
      · rw [if_neg (fun h' => h2 h'.2), if_neg (fun h' => h2 h'.2)]
    · rw [if_neg (fun h' => by omega), if_neg (fun h' => by omega)]
theorem DocB.ordSame {w0 W : World} {k : DbK} {c : Bool} {n : Nat} {st : MvS} (h : DocB w0 W k c n st) {f : Nat → List Nat} (e : ∀ q, q < 8 → st.ord q = f q) : DocB w0 W k c n { st with ord := f } :=
  ⟨h.bel, h.blk, h.tb, h.tx, h.rb, fun q hq => ⟨(h.rw_ q hq).1, by show W.ownsRow _ _ _ _ (f q).length (numD (f q)); rw [← e q hq]; exact (h.rw_ q hq).2⟩, h.bg, h.en, h.ov, h.lo, h.doo, h.drr, h.drb, h.dbe⟩
theorem own_mono {w : World} {base base' : Nat} {e : TypeId} {m : Nat} {v : Value} {l : Nat} {xs : List Value} (h : w.ownsRow base e m v l xs) (hb : base' ≤ base) : w.ownsRow base' e m v l xs := by
  obtain ⟨hl, h | ⟨g, cap, cur, h1, h2, h3⟩⟩ := h
  · exact ⟨hl, .inl h⟩
  · exact ⟨hl, .inr ⟨g, cap, cur, h1, Nat.le_trans hb h2, h3⟩⟩
/-- Times copied. -/
theorem run_copyT {w : World} {n : Nat} {f : Nat → Int} {base : Nat} {v : Value} (hn : n ≤ 8) (h0 : 0 < n) (h : w.ownsRow base 3 1 v n (timC n f)) (ty : TypeId) :
    ∃ v' w', (Builtin.append_ #[52, 52] ty #[.slice (some ⟨w.heap.size, 0, none⟩) 0 0, v]).run Tryd.prog (w.alloc (.cells #[] 3)) = .ok v' w' ∧ w'.ownsRow w.heap.size 3 1 v' n (timC n f) ∧ Below w.heap.size w w' := by
  obtain ⟨i, hi, hz, hsz, hby⟩ := info_parts' info3
  obtain ⟨a, cap, rfl, hc, hat⟩ := tim_at h
  obtain ⟨g, rfl, hg, _⟩ := hat 0 h0
  have hgl := (ownsRow_block h g hg).2.1
  have hnews : ∀ j u, (timC n f)[j]? = some u → (w.alloc (.cells #[] 3)).cell? ((⟨g, 0, none⟩ : Addr).add j) = some u := by
    intro j u hj
    have hjn : j < n := by
      have := (List.getElem?_eq_some_iff.1 hj).1
      simpa [timC] using this
    obtain ⟨g', e, _, hcj⟩ := hat j hjn
    obtain rfl : g = g' := by simpa using e
    rw [Addr.add_mid, Nat.zero_add]
    have : (timC n f)[j]? = some (.int .i64 (f j)) := by simp [timC, hjn]
    rw [this] at hj
    obtain rfl := Option.some.inj hj
    exact cellA hcj
  have hown : (w.alloc (.cells #[] 3)).ownsRow w.heap.size 3 1 (.slice (some ⟨w.heap.size, 0, none⟩) 0 0) 0 [] := World.ownsRow_lit (e := 3) (size := 1) w #[] 0 (Nat.le_refl _) (Nat.zero_le _) rfl
  obtain ⟨v', w', hr, ho, hg', _, hob⟩ := run_append_own_at (P := Tryd.prog) (w := w.alloc (.cells #[] 3)) w.heap.size 52 ty 3 i _ 1 8 Tryd.underlying52 hi hz hsz hby rfl (by decide) _ _ _ hown ⟨g, 0, none⟩ n cap (timC n f) (by simp [timC]) hnews (by
    intro u hu
    obtain ⟨q, _, rfl⟩ := List.mem_map.1 hu
    rfl) (by unfold maxLen; omega) (by omega) (by simp)
  refine ⟨v', w', hr, ?_, ?_⟩
  · rw [Nat.zero_add, List.nil_append] at ho
    exact ho
  · exact (belA (Below.refl _ _) (.cells #[] 3)).grown hg' (by simp) (fun b hb => (ownsRow_block hown b hb).1)
/-- The state while keys are gone through. -/
def comJ (s : MvS) (t j : Nat) : MvS := { s with en := updM s.en t s.tm, com := updM s.com t true, ord := ordJ s t j }
theorem comJ_put {s : MvS} {t j : Nat} (h : 0 < wrN (s.ops t) j) : ({ comJ s t j with ord := updM (comJ s t j).ord j ((comJ s t j).ord j ++ [t]) } : MvS) = comJ s t (j + 1) := by
  show ({ s with en := updM s.en t s.tm, com := updM s.com t true, ord := updM (ordJ s t j) j (ordJ s t j j ++ [t]) } : MvS) = _
  rw [ordJ_put h]
  rfl
theorem comJ_skip {s : MvS} {t j : Nat} (h : ¬ 0 < wrN (s.ops t) j) : comJ s t j = comJ s t (j + 1) := by
  unfold comJ
  rw [ordJ_skip h]
/-- What commit tells. -/
def CmTold (w0 W : World) (k : DbK) (c : Bool) (n : Nat) (s : MvS) (t : Nat) (r : Bool) (e : Ending) (W' : World) : Prop := ∃ k', e = .returned (.int .i64 (if r = true then 12 else 0)) ∧ DocB w0 W' k' c n (if r = true then s else comS s t) ∧ DFr k n W W' k'

set_option maxRecDepth 100000 in
set_option maxHeartbeats 8000000 in
theorem commit_any {w0 W : World} {k : DbK} {c : Bool} {n : Nat} {s : MvS} (h : DocB w0 W k c n s) (hn : n ≤ 8) (hl : ∀ t, (s.ops t).length ≤ 60) (hm : ∀ q, q < 8 → ∀ x ∈ s.ord q, x < n) (ho : ∀ q, q < 8 → (s.ord q).length ≤ 999) {t : Nat} (ht : t < n) :
    Calls Tryd.prog 29 #[.pointer (some ⟨k.B, 0, none⟩), .int .i64 (t : Int)] W fun e W' => CmTold w0 W k c n s t (refS c n s t) e W' := by
  have HD := hideIt h
  have HL := hideIt hl
  have HO := hideIt ho
  have HM := hideIt (fun q hq m (hmq : m < (s.ord q).length) => hm q hq _ (List.getElem_mem hmq))
  have HSz : Hid (k.B < W.heap.size ∧ k.T < W.heap.size ∧ k.R < W.heap.size) := ⟨h.lt, (h.own_lt (.inr (.inl rfl))).2, (h.own_lt (.inr (.inr (.inl rfl)))).2⟩
  have ht' : (t : Int) < (n : Int) := by omega
  obtain ⟨d0, d1, d2, d3, d4, d5, d6⟩ := h.cells
  have HRf : Hid (oldP s t 8 = true → refS c n s t = true) := fun h => by unfold refS; rw [h]; rfl
  have HRp : Hid ((c && pivP s (updM s.en t s.tm) n t n) = true → refS c n s t = true) := fun h => by unfold refS; rw [h, Bool.or_true]
  have HRn : Hid (oldP s t 8 = false → (c && pivP s (updM s.en t s.tm) n t n) = false → refS c n s t = false) := fun h1 h2 => by unfold refS; rw [h1, h2]; rfl
  obtain ⟨ab, cb, evb, hcb, hbg⟩ := tim_at h.bg
  obtain ⟨gb, rfl, hgb, b1⟩ := hbg t ht
  rw [evb] at d3
  have HGb : Hid (gb < W.heap.size) := (ownsRow_block h.bg gb hgb).2.1
  have HEn := hideIt (tim_at h.en)
  clear hbg h hl ho hm evb hgb
  generalize hR : refS c n s t = R at *
  clear hR
  go_enter Tryd.func29, Tryd.ntmps29
  go_wp2
  go_loopw [22] (fun v wr => ∃ q : Nat, q ≤ 8 ∧ v = .int .i64 q ∧ oldP s t q = false ∧ Below W.heap.size W wr) (fun v _ => 8 - (intOf v).toNat)
  case atStart => exact ⟨0, by omega, rfl, rfl, Below.refl _ _⟩
  case round =>
    obtain ⟨q, hq, rfl, hz, hb⟩ := hrel
    have HZ := hideIt hz
    have HBw := hideIt hb
    clear hz hb
    by_cases hq8 : q < 8
    · have hq8' : (q : Int) < 8 := by omega
      obtain ⟨r1, r2⟩ := HD.out.rw_ q hq8
      have l1 := (HBw.out.cell (p := ⟨k.R, q, none⟩) HSz.out.2.2).trans r1
      obtain ⟨va, vc, ev, hvc, hvq⟩ := num_hasI r2
      rw [ev] at l1
      have HQ : Hid (∀ Z, Below W.heap.size W Z → HasI Z (.slice va (s.ord q).length vc) ((s.ord q).map fun x : Nat => (x : Int))) := fun Z hZ => by
        rw [show Value.slice va (s.ord q).length vc = k.vr q by rw [ev, List.length_map]]
        exact (num_hasI r2).below hZ
      rw [List.length_map] at l1 hvc
      have hol := HO.out q hq8
      have HPs := hideIt (oldP_succ s t q)
      have HPm := hideIt (oldP_more s t hq8)
      have HMq := hideIt (HM.out q hq8)
      clear r1 r2 ev hvq
      go_wp2
      go_loopw [29] (fun v wz => ∃ m : Nat, m ≤ (s.ord q).length ∧ v = .int .i64 m ∧ oldQ s t q m = false ∧ Below W.heap.size W wz) (fun v _ => (s.ord q).length - (intOf v).toNat)
      case atStart => exact ⟨0, by omega, rfl, by simp [oldQ], HBw.out⟩
      case round =>
        obtain ⟨m, hm, rfl, hz2, hb2⟩ := hrel
        rename World => wz
        have HZ2 := hideIt hz2
        have HB2 := hideIt hb2
        clear hz2 hb2
        by_cases hml : m < (s.ord q).length
        · have hml' : (m : Int) < ((s.ord q).length : Int) := by omega
          obtain ⟨va', vc', ev', _, hrd⟩ := HQ.out wz HB2.out
          obtain ⟨rfl, rfl⟩ : va = va' ∧ vc = vc' := by simpa using ev'
          obtain ⟨g, off, rfl, p1⟩ := hrd m (by simpa using hml)
          simp only [List.getElem_map] at p1
          have HQs := hideIt (oldQ_succ (s := s) (t := t) hml)
          rw [HZ2.out] at HQs
          have hxn := HMq.out m hml
          generalize (s.ord q)[m] = x at p1 HQs hxn
          have HQm := hideIt (fun h => HPm.out (oldQ_more (s := s) (t := t) (q := q) (m := m) h))
          obtain ⟨a2, cp2, x1, x2, _, _, hwr⟩ := HD.out.wrote HL.out ht (q : Int)
          have HWr := hideIt hwr
          obtain ⟨ae, ce, eve, hce, hen⟩ := HEn.out
          obtain ⟨ge, rfl, hge, e1⟩ := hen x hxn
          have HGe : Hid (ge < W.heap.size) := (ownsRow_block HD.out.en ge hge).2.1
          rw [eve] at d4
          have hxn' : (x : Int) < (n : Int) := by omega
          have HX : Hid (∀ Z, Below W.heap.size W Z → Z.cell? ⟨k.B, 1, none⟩ = some (.slice (some ⟨k.T, 0, none⟩) n n) ∧ Z.cell? ⟨k.B, 3, none⟩ = some (.slice (some ⟨gb, 0, none⟩) n cb) ∧ Z.cell? ⟨k.B, 4, none⟩ = some (.slice (some ⟨ge, 0, none⟩) n ce) ∧ Z.cell? ⟨k.T, t * 2, none⟩ = some (.slice a2 (s.ops t).length cp2) ∧ Z.cell? ⟨k.T, t * 2 + 1, none⟩ = some (.bool (s.com t)) ∧ Z.cell? ⟨gb, t, none⟩ = some (.int .i64 (s.bg t)) ∧ Z.cell? ⟨ge, x, none⟩ = some (.int .i64 (s.en x))) := fun Z hZ =>
            ⟨(hZ.cell (p := ⟨k.B, 1, none⟩) HSz.out.1).trans d1, (hZ.cell (p := ⟨k.B, 3, none⟩) HSz.out.1).trans d3, (hZ.cell (p := ⟨k.B, 4, none⟩) HSz.out.1).trans d4, (hZ.cell (p := ⟨k.T, t * 2, none⟩) HSz.out.2.1).trans x1, (hZ.cell (p := ⟨k.T, t * 2 + 1, none⟩) HSz.out.2.1).trans x2, (hZ.cell (p := ⟨gb, t, none⟩) HGb.out).trans b1, (hZ.cell (p := ⟨ge, x, none⟩) HGe.out).trans e1⟩
          clear hen eve hge hrd ev' hwr x1 x2 e1 d0 d1 d2 d3 d4 d5 d6 b1 l1
          generalize (s.ops t).length = nl at *
          generalize hwx : wrN (s.ops t) q = y at *
          generalize s.com t = cm at *
          generalize s.bg t = zb at *
          generalize s.en x = ze at *
          clear hwx
          go_upto_region 7 with fail
          clear p1
          refine wp_region_held_drew (S := (fun w' => Below wz.heap.size wz w')) (by kernel_rfl) (Below.refl _ _).drew (fun hHeld => ?_)
          refine wpAnyH_take (i := 0) (v := ?_) rfl (by kernel_rfl) (by kernel_rfl) (by kernel_rfl) (fun _ _ _ h => h) (Or.inl ⟨by rfl, ?_⟩) (by assumption) ?_
          rotate_left 1
          · intro wz1 sb
            obtain ⟨y0, y1, y2, y3, y4, y5, y6⟩ := HX.out wz1 (belJ HB2.out sb)
            go_simp
            all_goals with_reducible rfl
          simp only [Act.put, List.setIfInBounds_toArray, List.set_cons_zero, List.set_cons_succ, List.getElem_toArray, List.getElem_cons_zero]
          refine wpAnyH_take (i := 1) (v := ?_) rfl (by kernel_rfl) (by kernel_rfl) (by kernel_rfl) (fun _ _ _ h => h) (Or.inl ⟨by rfl, ?_⟩) (by assumption) ?_
          rotate_left 1
          · intro wz1 sb
            obtain ⟨y0, y1, y2, y3, y4, y5, y6⟩ := HX.out wz1 (belJ HB2.out sb)
            go_simp
            all_goals with_reducible rfl
          simp only [Act.put, List.setIfInBounds_toArray, List.set_cons_zero, List.set_cons_succ, List.getElem_toArray, List.getElem_cons_zero, List.getElem_cons_succ]
          refine wpAnyH_take (i := 2) (v := ?_) rfl (by kernel_rfl) (by kernel_rfl) (by kernel_rfl) (fun _ _ _ h => h) (Or.inl ⟨by rfl, ?_⟩) (by assumption) ?_
          rotate_left 1
          · intro wz1 sb
            obtain ⟨y0, y1, y2, y3, y4, y5, y6⟩ := HX.out wz1 (belJ HB2.out sb)
            go_simp
            all_goals with_reducible rfl
          simp only [Act.put, List.setIfInBounds_toArray, List.set_cons_zero, List.set_cons_succ, List.getElem_toArray, List.getElem_cons_zero, List.getElem_cons_succ]
          refine wpAnyH_take (i := 3) (v := ?_) rfl (by kernel_rfl) (by kernel_rfl) (by kernel_rfl) (fun _ _ _ h => h) (Or.inl ⟨by rfl, ?_⟩) (by assumption) ?_
          rotate_left 1
          · intro wz1 sb
            obtain ⟨y0, y1, y2, y3, y4, y5, y6⟩ := HX.out wz1 (belJ HB2.out sb)
            go_simp
            all_goals with_reducible rfl
          simp only [Act.put, List.setIfInBounds_toArray, List.set_cons_zero, List.set_cons_succ, List.getElem_toArray, List.getElem_cons_zero, List.getElem_cons_succ]
          refine wpAnyH_take (i := 4) (v := ?_) rfl (by kernel_rfl) (by kernel_rfl) (by kernel_rfl) (fun _ _ _ h => h) (Or.inl ⟨by rfl, ?_⟩) (by assumption) ?_
          rotate_left 1
          · intro wz1 sb
            obtain ⟨y0, y1, y2, y3, y4, y5, y6⟩ := HX.out wz1 (belJ HB2.out sb)
            go_simp
            all_goals with_reducible rfl
          simp only [Act.put, List.setIfInBounds_toArray, List.set_cons_zero, List.set_cons_succ, List.getElem_toArray, List.getElem_cons_zero, List.getElem_cons_succ]
          refine wpAnyH_take (i := 5) (v := ?_) rfl (by kernel_rfl) (by kernel_rfl) (by kernel_rfl) (fun _ _ _ h => h) (Or.inl ⟨by rfl, ?_⟩) (by assumption) ?_
          rotate_left 1
          · intro wz1 sb
            obtain ⟨y0, y1, y2, y3, y4, y5, y6⟩ := HX.out wz1 (belJ HB2.out sb)
            go_simp
            all_goals with_reducible rfl
          simp only [Act.put, List.setIfInBounds_toArray, List.set_cons_zero, List.set_cons_succ, List.getElem_toArray, List.getElem_cons_zero, List.getElem_cons_succ]
          refine wpAnyH_take (i := 6) (v := ?_) rfl (by kernel_rfl) (by kernel_rfl) (by kernel_rfl) (fun _ _ _ h => h) (Or.inl ⟨by rfl, ?_⟩) (by assumption) ?_
          rotate_left 1
          · intro wz1 sb
            obtain ⟨y0, y1, y2, y3, y4, y5, y6⟩ := HX.out wz1 (belJ HB2.out sb)
            go_simp
            all_goals with_reducible rfl
          simp only [Act.put, List.setIfInBounds_toArray, List.set_cons_zero, List.set_cons_succ, List.getElem_toArray, List.getElem_cons_zero, List.getElem_cons_succ]
          refine wpAnyH_take (i := 7) (v := ?_) rfl (by kernel_rfl) (by kernel_rfl) (by kernel_rfl) (fun _ _ _ h => h) (Or.inl ⟨by rfl, ?_⟩) (by assumption) ?_
          rotate_left 1
          · intro wz1 sb
            obtain ⟨y0, y1, y2, y3, y4, y5, y6⟩ := HX.out wz1 (belJ HB2.out sb)
            go_simp
            all_goals with_reducible rfl
          simp only [Act.put, List.setIfInBounds_toArray, List.set_cons_zero, List.set_cons_succ, List.getElem_toArray, List.getElem_cons_zero, List.getElem_cons_succ]
          refine wpAnyH_take (i := 8) (v := ?_) rfl (by kernel_rfl) (by kernel_rfl) (by kernel_rfl) (fun _ _ _ h => h) (Or.inl ⟨by rfl, ?_⟩) (by assumption) ?_
          rotate_left 1
          · intro wz1 sb
            obtain ⟨y0, y1, y2, y3, y4, y5, y6⟩ := HX.out wz1 (belJ HB2.out sb)
            go_simp
            all_goals with_reducible rfl
          simp only [Act.put, List.setIfInBounds_toArray, List.set_cons_zero, List.set_cons_succ, List.getElem_toArray, List.getElem_cons_zero, List.getElem_cons_succ]
          refine wpAnyH_ready (rs := [9]) (by kernel_rfl) (by simp) (AllReadyH.cons rfl (fun K hK => ?_) AllReadyH.nil)
          go_simp
          refine (HWr.out _ (belJ HB2.out hHeld)).mono ?_
          rintro e W3 ⟨rfl, hb3⟩
          refine hK.out _ _ ?_ (fun hHeld => ?_)
          · exact belJ hHeld hb3
          clear hK K hb3
          have HB3 := hideIt (belJ HB2.out hHeld)
          by_cases hy : 0 < y
          · have dy : decide ((0 : Int) < (y : Int)) = true := decide_eq_true (by omega)
            refine wpAnyH_take (i := 10) (v := ?_) rfl (by kernel_rfl) (by kernel_rfl) (by kernel_rfl) (fun _ _ _ h => h) (Or.inl ⟨by rfl, ?_⟩) (by assumption) ?_
            rotate_left 1
            · intro wz1 sb
              obtain ⟨y0, y1, y2, y3, y4, y5, y6⟩ := HX.out wz1 (belJ HB2.out sb)
              go_simp
              all_goals with_reducible rfl
            simp only [Act.put, List.setIfInBounds_toArray, List.set_cons_zero, List.set_cons_succ, List.getElem_toArray, List.getElem_cons_zero, List.getElem_cons_succ]
            refine wpAnyH_take (i := 11) (v := ?_) rfl (by kernel_rfl) (by kernel_rfl) (by kernel_rfl) (fun _ _ _ h => h) (Or.inl ⟨by rfl, ?_⟩) (by assumption) ?_
            rotate_left 1
            · intro wz1 sb
              obtain ⟨y0, y1, y2, y3, y4, y5, y6⟩ := HX.out wz1 (belJ HB2.out sb)
              go_simp
              all_goals with_reducible rfl
            simp only [Act.put, List.setIfInBounds_toArray, List.set_cons_zero, List.set_cons_succ, List.getElem_toArray, List.getElem_cons_zero, List.getElem_cons_succ]
            refine wpAnyH_take (i := 12) (v := ?_) rfl (by kernel_rfl) (by kernel_rfl) (by kernel_rfl) (fun _ _ _ h => h) (Or.inl ⟨by rfl, ?_⟩) (by assumption) ?_
            rotate_left 1
            · intro wz1 sb
              obtain ⟨y0, y1, y2, y3, y4, y5, y6⟩ := HX.out wz1 (belJ HB2.out sb)
              go_simp
              all_goals with_reducible rfl
            simp only [Act.put, List.setIfInBounds_toArray, List.set_cons_zero, List.set_cons_succ, List.getElem_toArray, List.getElem_cons_zero, List.getElem_cons_succ]
            refine wpAnyH_take (i := 13) (v := ?_) rfl (by kernel_rfl) (by kernel_rfl) (by kernel_rfl) (fun _ _ _ h => h) (Or.inl ⟨by rfl, ?_⟩) (by assumption) ?_
            rotate_left 1
            · intro wz1 sb
              obtain ⟨y0, y1, y2, y3, y4, y5, y6⟩ := HX.out wz1 (belJ HB2.out sb)
              go_simp
              all_goals with_reducible rfl
            simp only [Act.put, List.setIfInBounds_toArray, List.set_cons_zero, List.set_cons_succ, List.getElem_toArray, List.getElem_cons_zero, List.getElem_cons_succ]
            refine wpAnyH_take (i := 14) (v := ?_) rfl (by kernel_rfl) (by kernel_rfl) (by kernel_rfl) (fun _ _ _ h => h) (Or.inl ⟨by rfl, ?_⟩) (by assumption) ?_
            rotate_left 1
            · intro wz1 sb
              obtain ⟨y0, y1, y2, y3, y4, y5, y6⟩ := HX.out wz1 (belJ HB2.out sb)
              go_simp
              all_goals with_reducible rfl
            simp only [Act.put, List.setIfInBounds_toArray, List.set_cons_zero, List.set_cons_succ, List.getElem_toArray, List.getElem_cons_zero, List.getElem_cons_succ]
            refine wpAnyH_take (i := 15) (v := ?_) rfl (by kernel_rfl) (by kernel_rfl) (by kernel_rfl) (fun _ _ _ h => h) (Or.inl ⟨by rfl, ?_⟩) (by assumption) ?_
            rotate_left 1
            · intro wz1 sb
              obtain ⟨y0, y1, y2, y3, y4, y5, y6⟩ := HX.out wz1 (belJ HB2.out sb)
              go_simp
              all_goals with_reducible rfl
            simp only [Act.put, List.setIfInBounds_toArray, List.set_cons_zero, List.set_cons_succ, List.getElem_toArray, List.getElem_cons_zero, List.getElem_cons_succ]
            refine wpAnyH_take (i := 16) (v := ?_) rfl (by kernel_rfl) (by kernel_rfl) (by kernel_rfl) (fun _ _ _ h => h) (Or.inl ⟨by rfl, ?_⟩) (by assumption) ?_
            rotate_left 1
            · intro wz1 sb
              obtain ⟨y0, y1, y2, y3, y4, y5, y6⟩ := HX.out wz1 (belJ HB2.out sb)
              go_simp
              all_goals with_reducible rfl
            simp only [Act.put, List.setIfInBounds_toArray, List.set_cons_zero, List.set_cons_succ, List.getElem_toArray, List.getElem_cons_zero, List.getElem_cons_succ]
            refine wpAnyH_take (i := 17) (v := ?_) rfl (by kernel_rfl) (by kernel_rfl) (by kernel_rfl) (fun _ _ _ h => h) (Or.inl ⟨by rfl, ?_⟩) (by assumption) ?_
            rotate_left 1
            · intro wz1 sb
              obtain ⟨y0, y1, y2, y3, y4, y5, y6⟩ := HX.out wz1 (belJ HB2.out sb)
              go_simp
              all_goals with_reducible rfl
            simp only [Act.put, List.setIfInBounds_toArray, List.set_cons_zero, List.set_cons_succ, List.getElem_toArray, List.getElem_cons_zero, List.getElem_cons_succ]
            refine wpAnyH_take (i := 18) (v := ?_) rfl (by kernel_rfl) (by kernel_rfl) (by kernel_rfl) (fun _ _ _ h => h) (Or.inl ⟨by rfl, ?_⟩) (by assumption) ?_
            rotate_left 1
            · intro wz1 sb
              obtain ⟨y0, y1, y2, y3, y4, y5, y6⟩ := HX.out wz1 (belJ HB2.out sb)
              go_simp
              all_goals with_reducible rfl
            simp only [Act.put, List.setIfInBounds_toArray, List.set_cons_zero, List.set_cons_succ, List.getElem_toArray, List.getElem_cons_zero, List.getElem_cons_succ]
            refine wpAnyH_take (i := 19) (v := ?_) rfl (by kernel_rfl) (by kernel_rfl) (by kernel_rfl) (fun _ _ _ h => h) (Or.inl ⟨by rfl, ?_⟩) (by assumption) ?_
            rotate_left 1
            · intro wz1 sb
              obtain ⟨y0, y1, y2, y3, y4, y5, y6⟩ := HX.out wz1 (belJ HB2.out sb)
              go_simp
              all_goals with_reducible rfl
            simp only [Act.put, List.setIfInBounds_toArray, List.set_cons_zero, List.set_cons_succ, List.getElem_toArray, List.getElem_cons_zero, List.getElem_cons_succ]
            refine wpAnyH_take (i := 20) (v := ?_) rfl (by kernel_rfl) (by kernel_rfl) (by kernel_rfl) (fun _ _ _ h => h) (Or.inl ⟨by rfl, ?_⟩) (by assumption) ?_
            rotate_left 1
            · intro wz1 sb
              obtain ⟨y0, y1, y2, y3, y4, y5, y6⟩ := HX.out wz1 (belJ HB2.out sb)
              go_simp
              all_goals with_reducible rfl
            simp only [Act.put, List.setIfInBounds_toArray, List.set_cons_zero, List.set_cons_succ, List.getElem_toArray, List.getElem_cons_zero, List.getElem_cons_succ]
            refine wpAnyH_take (i := 21) (v := ?_) rfl (by kernel_rfl) (by kernel_rfl) (by kernel_rfl) (fun _ _ _ h => h) (Or.inl ⟨by rfl, ?_⟩) (by assumption) ?_
            rotate_left 1
            · intro wz1 sb
              obtain ⟨y0, y1, y2, y3, y4, y5, y6⟩ := HX.out wz1 (belJ HB2.out sb)
              go_simp
              all_goals with_reducible rfl
            simp only [Act.put, List.setIfInBounds_toArray, List.set_cons_zero, List.set_cons_succ, List.getElem_toArray, List.getElem_cons_zero, List.getElem_cons_succ]
            refine wpAnyH_take (i := 22) (v := ?_) rfl (by kernel_rfl) (by kernel_rfl) (by kernel_rfl) (fun _ _ _ h => h) (Or.inl ⟨by rfl, ?_⟩) (by assumption) ?_
            rotate_left 1
            · intro wz1 sb
              obtain ⟨y0, y1, y2, y3, y4, y5, y6⟩ := HX.out wz1 (belJ HB2.out sb)
              go_simp
              all_goals with_reducible rfl
            simp only [Act.put, List.setIfInBounds_toArray, List.set_cons_zero, List.set_cons_succ, List.getElem_toArray, List.getElem_cons_zero, List.getElem_cons_succ]
            refine wpAnyH_take (i := 23) (v := ?_) rfl (by kernel_rfl) (by kernel_rfl) (by kernel_rfl) (fun _ _ _ h => h) (Or.inl ⟨by rfl, ?_⟩) (by assumption) ?_
            rotate_left 1
            · intro wz1 sb
              obtain ⟨y0, y1, y2, y3, y4, y5, y6⟩ := HX.out wz1 (belJ HB2.out sb)
              go_simp
              all_goals with_reducible rfl
            simp only [Act.put, List.setIfInBounds_toArray, List.set_cons_zero, List.set_cons_succ, List.getElem_toArray, List.getElem_cons_zero, List.getElem_cons_succ]
            refine wpAnyH_take (i := 24) (v := ?_) rfl (by kernel_rfl) (by kernel_rfl) (by kernel_rfl) (fun _ _ _ h => h) (Or.inl ⟨by rfl, ?_⟩) (by assumption) ?_
            rotate_left 1
            · intro wz1 sb
              obtain ⟨y0, y1, y2, y3, y4, y5, y6⟩ := HX.out wz1 (belJ HB2.out sb)
              go_simp
              all_goals with_reducible rfl
            simp only [Act.put, List.setIfInBounds_toArray, List.set_cons_zero, List.set_cons_succ, List.getElem_toArray, List.getElem_cons_zero, List.getElem_cons_succ]
            refine wpAnyH_take (i := 25) (v := ?_) rfl (by kernel_rfl) (by kernel_rfl) (by kernel_rfl) (fun _ _ _ h => h) (Or.inl ⟨by rfl, ?_⟩) (by assumption) ?_
            rotate_left 1
            · intro wz1 sb
              obtain ⟨y0, y1, y2, y3, y4, y5, y6⟩ := HX.out wz1 (belJ HB2.out sb)
              go_simp
              all_goals with_reducible rfl
            simp only [Act.put, List.setIfInBounds_toArray, List.set_cons_zero, List.set_cons_succ, List.getElem_toArray, List.getElem_cons_zero, List.getElem_cons_succ]
            refine wpAnyH_take (i := 26) (v := ?_) rfl (by kernel_rfl) (by kernel_rfl) (by kernel_rfl) (fun _ _ _ h => h) (Or.inl ⟨by rfl, ?_⟩) (by assumption) ?_
            rotate_left 1
            · intro wz1 sb
              obtain ⟨y0, y1, y2, y3, y4, y5, y6⟩ := HX.out wz1 (belJ HB2.out sb)
              go_simp
              all_goals with_reducible rfl
            simp only [Act.put, List.setIfInBounds_toArray, List.set_cons_zero, List.set_cons_succ, List.getElem_toArray, List.getElem_cons_zero, List.getElem_cons_succ]
            by_cases hz : zb < ze
            · have dz : decide (zb < ze) = true := decide_eq_true hz
              have HR := hideIt (HRf.out (HQm.out (by rw [HQs.out, decide_eq_true hy, dz]; rfl)))
              refine wpAnyH_take (i := 27) (v := ?_) rfl (by kernel_rfl) (by kernel_rfl) (by kernel_rfl) (fun _ _ _ h => h) (Or.inl ⟨by rfl, ?_⟩) (by assumption) ?_
              rotate_left 1
              · intro wz1 sb
                obtain ⟨y0, y1, y2, y3, y4, y5, y6⟩ := HX.out wz1 (belJ HB2.out sb)
                go_simp
                all_goals with_reducible rfl
              simp only [Act.put, List.setIfInBounds_toArray, List.set_cons_zero, List.set_cons_succ, List.getElem_toArray, List.getElem_cons_zero, List.getElem_cons_succ]
              refine wpAnyH_done (by kernel_rfl) ?_ _
              go_wp2
              go_ret
              exact ⟨k, by rw [HR.out]; rfl, by rw [HR.out]; exact HD.out.below HB3.out, DFr.below HB3.out⟩
            · have dz : decide (zb < ze) = false := decide_eq_false hz
              have HE := hideIt (show oldQ s t q (m + 1) = false by rw [HQs.out, dz]; simp)
              refine wpAnyH_take (i := 27) (v := ?_) rfl (by kernel_rfl) (by kernel_rfl) (by kernel_rfl) (fun _ _ _ h => h) (Or.inl ⟨by rfl, ?_⟩) (by assumption) ?_
              rotate_left 1
              · intro wz1 sb
                obtain ⟨y0, y1, y2, y3, y4, y5, y6⟩ := HX.out wz1 (belJ HB2.out sb)
                go_simp
                all_goals with_reducible rfl
              simp only [Act.put, List.setIfInBounds_toArray, List.set_cons_zero, List.set_cons_succ, List.getElem_toArray, List.getElem_cons_zero, List.getElem_cons_succ]
              refine wpAnyH_done (by kernel_rfl) ?_ _
              go_wp2
              go_roundw
              case rel => exact ⟨m + 1, by omega, by go_num, HE.out, HB3.out⟩
              case measure => simp [intOf]; omega
          · have dy : decide ((0 : Int) < (y : Int)) = false := decide_eq_false (by omega)
            have HE := hideIt (show oldQ s t q (m + 1) = false by rw [HQs.out, decide_eq_false hy]; simp)
            refine wpAnyH_take (i := 10) (v := ?_) rfl (by kernel_rfl) (by kernel_rfl) (by kernel_rfl) (fun _ _ _ h => h) (Or.inl ⟨by rfl, ?_⟩) (by assumption) ?_
            rotate_left 1
            · intro wz1 sb
              obtain ⟨y0, y1, y2, y3, y4, y5, y6⟩ := HX.out wz1 (belJ HB2.out sb)
              go_simp
              all_goals with_reducible rfl
            simp only [Act.put, List.setIfInBounds_toArray, List.set_cons_zero, List.set_cons_succ, List.getElem_toArray, List.getElem_cons_zero, List.getElem_cons_succ]
            refine wpAnyH_take (i := 11) (v := ?_) rfl (by kernel_rfl) (by kernel_rfl) (by kernel_rfl) (fun _ _ _ h => h) (Or.inl ⟨by rfl, ?_⟩) (by assumption) ?_
            rotate_left 1
            · intro wz1 sb
              obtain ⟨y0, y1, y2, y3, y4, y5, y6⟩ := HX.out wz1 (belJ HB2.out sb)
              go_simp
              all_goals with_reducible rfl
            simp only [Act.put, List.setIfInBounds_toArray, List.set_cons_zero, List.set_cons_succ, List.getElem_toArray, List.getElem_cons_zero, List.getElem_cons_succ]
            refine wpAnyH_take (i := 12) (v := undef) rfl (by kernel_rfl) (by kernel_rfl) (by kernel_rfl) (fun _ _ _ h => h) (Or.inr ⟨by rfl, rfl⟩) (by assumption) ?_
            simp only [Act.put, List.setIfInBounds_toArray, List.set_cons_zero, List.set_cons_succ, List.getElem_toArray, List.getElem_cons_zero, List.getElem_cons_succ]
            refine wpAnyH_take (i := 13) (v := undef) rfl (by kernel_rfl) (by kernel_rfl) (by kernel_rfl) (fun _ _ _ h => h) (Or.inr ⟨by rfl, rfl⟩) (by assumption) ?_
            simp only [Act.put, List.setIfInBounds_toArray, List.set_cons_zero, List.set_cons_succ, List.getElem_toArray, List.getElem_cons_zero, List.getElem_cons_succ]
            refine wpAnyH_take (i := 14) (v := undef) rfl (by kernel_rfl) (by kernel_rfl) (by kernel_rfl) (fun _ _ _ h => h) (Or.inr ⟨by rfl, rfl⟩) (by assumption) ?_
            simp only [Act.put, List.setIfInBounds_toArray, List.set_cons_zero, List.set_cons_succ, List.getElem_toArray, List.getElem_cons_zero, List.getElem_cons_succ]
            refine wpAnyH_take (i := 15) (v := undef) rfl (by kernel_rfl) (by kernel_rfl) (by kernel_rfl) (fun _ _ _ h => h) (Or.inr ⟨by rfl, rfl⟩) (by assumption) ?_
            simp only [Act.put, List.setIfInBounds_toArray, List.set_cons_zero, List.set_cons_succ, List.getElem_toArray, List.getElem_cons_zero, List.getElem_cons_succ]
            refine wpAnyH_take (i := 16) (v := undef) rfl (by kernel_rfl) (by kernel_rfl) (by kernel_rfl) (fun _ _ _ h => h) (Or.inr ⟨by rfl, rfl⟩) (by assumption) ?_
            simp only [Act.put, List.setIfInBounds_toArray, List.set_cons_zero, List.set_cons_succ, List.getElem_toArray, List.getElem_cons_zero, List.getElem_cons_succ]
            refine wpAnyH_take (i := 17) (v := undef) rfl (by kernel_rfl) (by kernel_rfl) (by kernel_rfl) (fun _ _ _ h => h) (Or.inr ⟨by rfl, rfl⟩) (by assumption) ?_
            simp only [Act.put, List.setIfInBounds_toArray, List.set_cons_zero, List.set_cons_succ, List.getElem_toArray, List.getElem_cons_zero, List.getElem_cons_succ]
            refine wpAnyH_take (i := 18) (v := undef) rfl (by kernel_rfl) (by kernel_rfl) (by kernel_rfl) (fun _ _ _ h => h) (Or.inr ⟨by rfl, rfl⟩) (by assumption) ?_
            simp only [Act.put, List.setIfInBounds_toArray, List.set_cons_zero, List.set_cons_succ, List.getElem_toArray, List.getElem_cons_zero, List.getElem_cons_succ]
            refine wpAnyH_take (i := 19) (v := undef) rfl (by kernel_rfl) (by kernel_rfl) (by kernel_rfl) (fun _ _ _ h => h) (Or.inr ⟨by rfl, rfl⟩) (by assumption) ?_
            simp only [Act.put, List.setIfInBounds_toArray, List.set_cons_zero, List.set_cons_succ, List.getElem_toArray, List.getElem_cons_zero, List.getElem_cons_succ]
            refine wpAnyH_take (i := 20) (v := undef) rfl (by kernel_rfl) (by kernel_rfl) (by kernel_rfl) (fun _ _ _ h => h) (Or.inr ⟨by rfl, rfl⟩) (by assumption) ?_
            simp only [Act.put, List.setIfInBounds_toArray, List.set_cons_zero, List.set_cons_succ, List.getElem_toArray, List.getElem_cons_zero, List.getElem_cons_succ]
            refine wpAnyH_take (i := 21) (v := undef) rfl (by kernel_rfl) (by kernel_rfl) (by kernel_rfl) (fun _ _ _ h => h) (Or.inr ⟨by rfl, rfl⟩) (by assumption) ?_
            simp only [Act.put, List.setIfInBounds_toArray, List.set_cons_zero, List.set_cons_succ, List.getElem_toArray, List.getElem_cons_zero, List.getElem_cons_succ]
            refine wpAnyH_take (i := 22) (v := undef) rfl (by kernel_rfl) (by kernel_rfl) (by kernel_rfl) (fun _ _ _ h => h) (Or.inr ⟨by rfl, rfl⟩) (by assumption) ?_
            simp only [Act.put, List.setIfInBounds_toArray, List.set_cons_zero, List.set_cons_succ, List.getElem_toArray, List.getElem_cons_zero, List.getElem_cons_succ]
            refine wpAnyH_take (i := 23) (v := undef) rfl (by kernel_rfl) (by kernel_rfl) (by kernel_rfl) (fun _ _ _ h => h) (Or.inr ⟨by rfl, rfl⟩) (by assumption) ?_
            simp only [Act.put, List.setIfInBounds_toArray, List.set_cons_zero, List.set_cons_succ, List.getElem_toArray, List.getElem_cons_zero, List.getElem_cons_succ]
            refine wpAnyH_take (i := 24) (v := undef) rfl (by kernel_rfl) (by kernel_rfl) (by kernel_rfl) (fun _ _ _ h => h) (Or.inr ⟨by rfl, rfl⟩) (by assumption) ?_
            simp only [Act.put, List.setIfInBounds_toArray, List.set_cons_zero, List.set_cons_succ, List.getElem_toArray, List.getElem_cons_zero, List.getElem_cons_succ]
            refine wpAnyH_take (i := 25) (v := undef) rfl (by kernel_rfl) (by kernel_rfl) (by kernel_rfl) (fun _ _ _ h => h) (Or.inr ⟨by rfl, rfl⟩) (by assumption) ?_
            simp only [Act.put, List.setIfInBounds_toArray, List.set_cons_zero, List.set_cons_succ, List.getElem_toArray, List.getElem_cons_zero, List.getElem_cons_succ]
            refine wpAnyH_take (i := 26) (v := undef) rfl (by kernel_rfl) (by kernel_rfl) (by kernel_rfl) (fun _ _ _ h => h) (Or.inr ⟨by rfl, rfl⟩) (by assumption) ?_
            simp only [Act.put, List.setIfInBounds_toArray, List.set_cons_zero, List.set_cons_succ, List.getElem_toArray, List.getElem_cons_zero, List.getElem_cons_succ]
            refine wpAnyH_take (i := 27) (v := ?_) rfl (by kernel_rfl) (by kernel_rfl) (by kernel_rfl) (fun _ _ _ h => h) (Or.inl ⟨by rfl, ?_⟩) (by assumption) ?_
            rotate_left 1
            · intro wz1 sb
              obtain ⟨y0, y1, y2, y3, y4, y5, y6⟩ := HX.out wz1 (belJ HB2.out sb)
              go_simp
              all_goals with_reducible rfl
            simp only [Act.put, List.setIfInBounds_toArray, List.set_cons_zero, List.set_cons_succ, List.getElem_toArray, List.getElem_cons_zero, List.getElem_cons_succ]
            refine wpAnyH_done (by kernel_rfl) ?_ _
            go_wp2
            go_roundw
            case rel => exact ⟨m + 1, by omega, by go_num, HE.out, HB3.out⟩
            case measure => simp [intOf]; omega
        · obtain rfl : m = (s.ord q).length := by omega
          have HE := hideIt (show oldP s t (q + 1) = false by rw [HPs.out, HZ.out, HZ2.out]; rfl)
          go_wp2
          go_roundw
          case rel => exact ⟨q + 1, by omega, by go_num, HE.out, HB2.out⟩
          case measure => simp [intOf]; omega
    · obtain rfl : q = 8 := by omega
      have hD0 := HD.out.below HBw.out
      obtain ⟨vv, W4, hr4, ho4, hb4⟩ := run_copyT hn (by omega) hD0.en 52
      obtain ⟨ae, ce, rfl, hce, hen⟩ := tim_at ho4
      obtain ⟨ge, rfl, hge, e1⟩ := hen t ht
      obtain ⟨hg1, hg2, cur, hg3⟩ := ownsRow_block ho4 ge hge
      have HR4 := hideIt hr4
      have z1 := frozen_of_row W4 ge t cur 3 hg3
      have ho5 := tim_put ho4 ht s.tm hge
      have hb5 : Below wr.heap.size wr (W4.setCell ⟨ge, t, none⟩ (.int .i64 s.tm)) := hb4.setCell (p := ⟨ge, t, none⟩) hg1 _
      have HB5 := hideIt (belJ HBw.out hb5)
      have HD5 := hideIt (hD0.below hb5)
      have HE5 := hideIt ho5
      have c4 : (wr.alloc (.cells #[] 3)).cell? ⟨k.B, 4, none⟩ = some k.ve := cellA hD0.cells.2.2.2.2.1
      have c6 : W4.cell? ⟨k.B, 6, none⟩ = some (.int .i64 s.tm) := (hD0.below hb4).cells.2.2.2.2.2.2
      obtain ⟨av, cv, evv, _, _⟩ := tim_at hD0.en
      have hget : ¬ ge = k.B := by have := HSz.out.1; have := HBw.out.size; omega
      have hget2 : ¬ k.B = ge := fun e => hget e.symm
      have HGe : Hid (W.heap.size ≤ ge) := Nat.le_trans HBw.out.size hg1
      have HOwn : Hid (∀ b, k.own n b → b < ge) := fun b hb => by have := (HD.out.own_lt hb).2; have := HBw.out.size; omega
      rw [evv] at c4
      rw [evv] at HR4
      clear hr4 ho4 hb4 hen hge hg3 ho5 hb5 hD0 hg1 hg2 evv d0 d1 d2 d3 d4 d5 d6 b1
      have HZ8 := HZ
      clear HZ
      go_upto_region 13 with (at_builtin; refine wpList_append_run _ rfl _ _ 52 rfl _ _ _ W4 rfl rfl HR4.out ?_)
      clear HR4 c4 c6 e1 z1
      generalize hW5 : W4.setCell ⟨ge, t, none⟩ (.int .i64 s.tm) = W5 at HB5 HD5 HE5 ⊢
      clear hW5
      have HPt : Hid (∀ Z, Below W5.heap.size W5 Z → ∀ i j : Nat, i < n → j < n → Calls Tryd.prog 59 #[.pointer (some ⟨k.B, 0, none⟩), .int .i64 (i : Int), .int .i64 (j : Int), .slice (some ⟨ge, 0, none⟩) n ce] Z fun e W' => e = .returned (.bool (ptsB s (updM s.en t s.tm) i j)) ∧ Below Z.heap.size Z W') := fun Z hZ i j hi hj =>
        points_any (HD5.out.below hZ) HL.out (updM s.en t s.tm) (ownsRow_same HE5.out fun b hb => hZ.block b (ownsRow_block HE5.out b hb).2.1) hi hj
      generalize hEe : updM s.en t s.tm = E at *
      go_wp2
      go_loopw [78] (fun v wx => ∃ j : Nat, j ≤ n ∧ v = .int .i64 j ∧ (c && pivP s E n t j) = false ∧ Below W5.heap.size W5 wx) (fun v _ => n - (intOf v).toNat)
      case atStart => exact ⟨0, Nat.zero_le _, rfl, by simp [pivP], Below.refl _ _⟩
      case round =>
        obtain ⟨j, hj, rfl, hz3, hb3⟩ := hrel
        rename World => wx
        have HZ3 := hideIt hz3
        have HB3 := hideIt hb3
        clear hz3 hb3
        by_cases hjn : j < n
        · have hjn' : (j : Int) < (n : Int) := by omega
          have HPs := hideIt (pivP_succ s E n t j)
          have HPm := hideIt (pivP_more (s := s) (e := E) (t := t) hjn)
          go_upto_region 16 with fail
          go_cut [11] from 81 to 98 (fun x wz => x = .bool (nearB s E t j) ∧ Below W5.heap.size W5 wz)
          case first =>
            by_cases hjt : j = t
            · have dj : ((j : Int) == (t : Int)) = true := by simp [hjt]
              have HE := hideIt (show nearB s E t j = true by unfold nearB; rw [decide_eq_true hjt]; rfl)
              clear hjt
              go_wp2
              go_meet
              exact ⟨by rw [HE.out], HB3.out⟩
            · have dj : ((j : Int) == (t : Int)) = false := by rw [beq_eq_false_iff_ne]; omega
              have HE := hideIt (show nearB s E t j = (ptsB s E t j || ptsB s E j t) by unfold nearB; rw [decide_eq_false hjt]; rfl)
              have HC1 := hideIt (HPt.out wx HB3.out t j ht hjn)
              cases hp : ptsB s E t j
              · rw [hp] at HC1 HE
                go_wp2_with fail
                refine HC1.out.mono ?_
                rintro e W6 ⟨rfl, hb6⟩
                have hb6' := belJ HB3.out hb6
                have HB6 := hideIt hb6'
                have HC2 := hideIt (HPt.out W6 hb6' j t hjn ht)
                clear HC1 hb6 hb6'
                go_wp2_with fail
                refine HC2.out.mono ?_
                rintro e W7 ⟨rfl, hb7⟩
                have HB7 := hideIt (belJ HB6.out hb7)
                clear HC2 hb7
                go_wp2
                go_meet
                exact ⟨by rw [HE.out, Bool.false_or], HB7.out⟩
              · rw [hp] at HC1 HE
                go_wp2_with fail
                refine HC1.out.mono ?_
                rintro e W6 ⟨rfl, hb6⟩
                have HB6 := hideIt (belJ HB3.out hb6)
                clear HC1 hb6
                go_wp2
                go_meet
                exact ⟨by rw [HE.out, Bool.true_or], HB6.out⟩
          case rest =>
            obtain ⟨rfl, hb4⟩ := hcut
            rename World => wn
            have HB4 := hideIt hb4
            clear hb4
            go_wp2
            go_loopw [12, 13, 100] (fun a b v wy => ∃ x : Nat, x ≤ n ∧ v = .int .i64 x ∧ a = .bool (inP s E j x) ∧ b = .bool (outP s E j x) ∧ Below W5.heap.size W5 wy) (fun _ _ v _ => n - (intOf v).toNat)
            case atStart => exact ⟨0, Nat.zero_le _, rfl, rfl, rfl, HB4.out⟩
            case round =>
              obtain ⟨x, hx, rfl, rfl, rfl, hb5⟩ := hrel
              rename World => wy
              have HBy := hideIt hb5
              clear hb5
              by_cases hxn : x < n
              · have hxn' : (x : Int) < (n : Int) := by omega
                have HI := hideIt (inP_succ s E j x)
                have HU := hideIt (outP_succ s E j x)
                go_upto_region 21 with fail
                have HC1 := hideIt (HPt.out wy HBy.out x j hxn hjn)
                cases hi : inP s E j x
                · rw [hi] at HI
                  go_wp2_with fail
                  refine HC1.out.mono ?_
                  rintro e W6 ⟨rfl, hb6⟩
                  have HB6 := hideIt (belJ HBy.out hb6)
                  have HC2 := hideIt (HPt.out W6 HB6.out j x hjn hxn)
                  clear HC1 hb6
                  cases ho : outP s E j x
                  · rw [ho] at HU
                    go_wp2_with fail
                    refine HC2.out.mono ?_
                    rintro e W7 ⟨rfl, hb7⟩
                    have HB7 := hideIt (belJ HB6.out hb7)
                    clear HC2 hb7
                    go_wp2
                    go_roundw
                    case rel => exact ⟨x + 1, by omega, by go_num, by rw [HI.out, Bool.false_or], by rw [HU.out, Bool.false_or], HB7.out⟩
                    case measure => simp [intOf]; omega
                  · rw [ho] at HU
                    go_wp2
                    go_roundw
                    case rel => exact ⟨x + 1, by omega, by go_num, by rw [HI.out, Bool.false_or], by rw [HU.out, Bool.true_or], HB6.out⟩
                    case measure => simp [intOf]; omega
                · rw [hi] at HI
                  have HC2 := hideIt (HPt.out wy HBy.out j x hjn hxn)
                  clear HC1
                  cases ho : outP s E j x
                  · rw [ho] at HU
                    go_wp2_with fail
                    refine HC2.out.mono ?_
                    rintro e W7 ⟨rfl, hb7⟩
                    have HB7 := hideIt (belJ HBy.out hb7)
                    clear HC2 hb7
                    go_wp2
                    go_roundw
                    case rel => exact ⟨x + 1, by omega, by go_num, by rw [HI.out, Bool.true_or], by rw [HU.out, Bool.false_or], HB7.out⟩
                    case measure => simp [intOf]; omega
                  · rw [ho] at HU
                    go_wp2
                    go_roundw
                    case rel => exact ⟨x + 1, by omega, by go_num, by rw [HI.out, Bool.true_or], by rw [HU.out, Bool.true_or], HBy.out⟩
                    case measure => simp [intOf]; omega
              · obtain rfl : x = n := by omega
                have HDy := hideIt (HD5.out.below HBy.out)
                have HBW := hideIt (belJ HB5.out HBy.out)
                obtain ⟨f0, _⟩ := HDy.out.cells
                generalize nearB s E t j = b1 at *
                generalize inP s E j x = b2 at *
                generalize outP s E j x = b3 at *
                cases c
                · have HQ := hideIt (show (false && pivP s E x t (j + 1)) = false from rfl)
                  go_wp2
                  go_roundw
                  case rel => exact ⟨j + 1, by omega, by go_num, HQ.out, HBy.out⟩
                  case measure => simp [intOf]; omega
                cases b1
                · have HQ := hideIt (show (true && pivP s E x t (j + 1)) = false by rw [HPs.out]; have := HZ3.out; simpa using this)
                  go_wp2
                  go_roundw
                  case rel => exact ⟨j + 1, by omega, by go_num, HQ.out, HBy.out⟩
                  case measure => simp [intOf]; omega
                cases b2
                · have HQ := hideIt (show (true && pivP s E x t (j + 1)) = false by rw [HPs.out]; have := HZ3.out; simpa using this)
                  go_wp2
                  go_roundw
                  case rel => exact ⟨j + 1, by omega, by go_num, HQ.out, HBy.out⟩
                  case measure => simp [intOf]; omega
                cases b3
                · have HQ := hideIt (show (true && pivP s E x t (j + 1)) = false by rw [HPs.out]; have := HZ3.out; simpa using this)
                  go_wp2
                  go_roundw
                  case rel => exact ⟨j + 1, by omega, by go_num, HQ.out, HBy.out⟩
                  case measure => simp [intOf]; omega
                have HR := hideIt (HRp.out (by rw [HPm.out rfl]; rfl))
                go_wp2
                go_ret
                exact ⟨k, by rw [HR.out]; rfl, by rw [HR.out]; exact HDy.out, DFr.below HBW.out⟩
        · obtain rfl : j = n := by omega
          have HRf0 := hideIt (HRn.out HZ8.out HZ3.out)
          have hD6 := HD5.out.below HB3.out
          have hW6 := belJ HB5.out HB3.out
          have hE6 : wx.ownsRow w0.heap.size 3 1 (.slice (some ⟨ge, 0, none⟩) j ce) j (timC j E) := own_mono (ownsRow_same HE5.out fun b hb => HB3.out.block b (ownsRow_block HE5.out b hb).2.1) (by have := HD.out.bel.size; have := HBw.out.size; omega)
          have hD7 := hD6.setEn hE6 (fun b hb ho => by
            obtain rfl : ge = b := by simpa [Value.ownBlock] using hb
            have := HOwn.out _ ho
            omega)
          have hD8 := hD7.setCom ht
          have HF8 : Hid (DFr k j W ((wx.setCell ⟨k.B, 4, none⟩ (.slice (some ⟨ge, 0, none⟩) j ce)).setCell ⟨k.T, t * 2 + 1, none⟩ (.bool true)) { k with ve := .slice (some ⟨ge, 0, none⟩) j ce }) := by
            refine ⟨rfl, by have := hW6.size; simpa using this, fun b hb hno => ?_, fun b hb => ?_⟩
            · rw [Below.heap_setCell _ _ _ b (fun e => hno (.inr (.inl e))), Below.heap_setCell _ _ _ b (fun e => hno (.inl e))]
              exact hW6.block b hb
            · rcases hb with hb | hb | hb | hb | hb | hb | hb | hb
              · exact .inl (.inl hb)
              · exact .inl (.inr (.inl hb))
              · exact .inl (.inr (.inr (.inl hb)))
              · exact .inl (.inr (.inr (.inr (.inl hb))))
              · exact .inl (.inr (.inr (.inr (.inr (.inl hb)))))
              · obtain rfl : ge = b := by simpa [Value.ownBlock] using hb
                exact .inr HGe.out
              · exact .inl (.inr (.inr (.inr (.inr (.inr (.inr (.inl hb)))))))
              · exact .inl (.inr (.inr (.inr (.inr (.inr (.inr (.inr hb)))))))
          subst hEe
          have HD9 : Hid (DocB w0 ((wx.setCell ⟨k.B, 4, none⟩ (.slice (some ⟨ge, 0, none⟩) j ce)).setCell ⟨k.T, t * 2 + 1, none⟩ (.bool true)) { k with ve := .slice (some ⟨ge, 0, none⟩) j ce } c j (comJ s t 0)) :=
            hD8.ordSame (f := ordJ s t 0) fun q _ => by
              show s.ord q = _
              unfold ordJ
              rw [if_neg (fun h => by omega)]
          have f4 := hD6.cells.2.2.2.2.1
          have z4 := hD6.fz 4
          have g1 : (wx.setCell ⟨k.B, 4, none⟩ (.slice (some ⟨ge, 0, none⟩) j ce)).cell? ⟨k.B, 1, none⟩ = some (.slice (some ⟨k.T, 0, none⟩) j j) := hD7.cells.2.1
          have g2 : (wx.setCell ⟨k.B, 4, none⟩ (.slice (some ⟨ge, 0, none⟩) j ce)).cell? ⟨k.T, t * 2 + 1, none⟩ = some (.bool (s.com t)) := (hD7.tx t ht).2.1
          have g3 : (wx.setCell ⟨k.B, 4, none⟩ (.slice (some ⟨ge, 0, none⟩) j ce)).frozen? ⟨k.T, t * 2 + 1, none⟩ = false := by
            obtain ⟨ct, hct⟩ := hD7.tb
            exact frozen_of_row _ _ _ ct 90 hct
          have g4 : ((wx.setCell ⟨k.B, 4, none⟩ (.slice (some ⟨ge, 0, none⟩) j ce)).setCell ⟨k.T, t * 2 + 1, none⟩ (.bool true)).cell? ⟨k.B, 2, none⟩ = some (.slice (some ⟨k.R, 0, none⟩) 8 8) := hD8.cells.2.2.1
          clear hD6 hW6 hE6 hD7 hD8 HPt HE5 HD5 HB3 HB5 hget hget2 HOwn HBw
          go_upto_region 27 with fail
          generalize wx.setCell ⟨k.B, 4, none⟩ (.slice (some ⟨ge, 0, none⟩) j ce) = W7 at HF8 HD9 g1 g2 g3 g4 ⊢
          go_upto_region 28 with fail
          generalize W7.setCell ⟨k.T, t * 2 + 1, none⟩ (.bool true) = W8 at HF8 HD9 g4 ⊢
          clear g1 g2 g3 f4 z4
          go_wp2
          go_loopw [152] (fun v wq => ∃ q : Nat, q ≤ 8 ∧ v = .int .i64 q ∧ ∃ k', DocB w0 wq k' c j (comJ s t q) ∧ DFr k j W wq k') (fun v _ => 8 - (intOf v).toNat)
          case atStart => exact ⟨0, by omega, rfl, _, HD9.out, HF8.out⟩
          case round =>
            clear HD9 HF8 g4
            obtain ⟨q, hq, rfl, k', hd, hf⟩ := hrel
            rename World => wq
            have hB := hf.1
            have HDq := hideIt hd
            have HFq := hideIt hf
            by_cases hq8 : q < 8
            · have hq8' : (q : Int) < 8 := by omega
              have u1 := hd.cells.2.1
              have u2 := hd.cells.2.2.1
              rw [hB] at u1 u2
              have HBq := hideIt hB
              obtain ⟨a2, cp2, x1, x2, hwr⟩ : ∃ a cap, wq.cell? ⟨k'.T, t * 2, none⟩ = some (.slice a (s.ops t).length cap) ∧ wq.cell? ⟨k'.T, t * 2 + 1, none⟩ = some (.bool ((comJ s t q).com t)) ∧ ∀ Z, Below wq.heap.size wq Z → Calls Tryd.prog 28 #[.agg #[.slice a (s.ops t).length cap, .bool ((comJ s t q).com t)], .int .i64 (q : Int)] Z fun e w' => e = .returned (.int .i64 (wrN (s.ops t) q : Nat)) ∧ Below Z.heap.size Z w' := by
                obtain ⟨a, cap, h1, h2, _, _, h3⟩ := hd.wrote HL.out ht (q : Int)
                exact ⟨a, cap, h1, h2, h3⟩
              have HWr := hideIt (hwr wq (Below.refl _ _))
              have HOq := hideIt (HO.out q hq8)
              clear hB hd hf hwr
              generalize (comJ s t q).com t = cm at *
              go_wp2_with fail
              refine HWr.out.mono ?_
              rintro e W9 ⟨rfl, hb9⟩
              have HB9 := hideIt hb9
              clear HWr hb9 x1 x2 u1 u2
              by_cases hw : 0 < wrN (s.ops t) q
              · have dw : decide ((0 : Int) < (wrN (s.ops t) q : Int)) = true := decide_eq_true (by omega)
                have HPut := hideIt (comJ_put (s := s) (t := t) (j := q) hw)
                have hd9 := HDq.out.below HB9.out
                have hbA : Below W9.heap.size W9 (W9.alloc (.cells #[.int .i64 (t : Int)] 3)).drew := (belA (Below.refl _ _) _).drew
                have hdA := hd9.below hbA
                have hsz : (W9.alloc (.cells #[.int .i64 (t : Int)] 3)).drew.heap.size = W9.heap.size + 1 := by
                  show (W9.alloc (.cells #[.int .i64 (t : Int)] 3)).heap.size = _
                  simp
                have hnw : (W9.alloc (.cells #[.int .i64 (t : Int)] 3)).drew.cell? ⟨W9.heap.size, 0, none⟩ = some (.int .i64 (t : Int)) := cell_of_row _ _ _ _ 3 (0, 0) (heap_alloc_new W9 _)
                obtain ⟨v', W10, hr, ho, hg, hv⟩ := run_appI (hdA.rw_ q hq8).2 hnw (by rw [hsz]; have := hd9.bel.size; omega) (by
                  show (ordJ s t q q).length ≤ 1000
                  rw [ordJ_own]
                  have := HOq.out
                  omega) 52
                obtain ⟨va', vc', rfl⟩ := ownsRow_slice ho
                obtain ⟨hd10, hf10⟩ := hdA.pushR hq8 ho hg hv
                rw [HPut.out] at hd10
                have R1 := hideIt hd10
                have R2 := hideIt (HFq.out.trans ((DFr.below (belJ HB9.out hbA)).trans hf10))
                have HR := hideIt hr
                have u1 := hd9.cells.2.2.1
                have u2 := (hd9.rw_ q hq8).1
                have hBl := hd9.lt
                have hRl := (hd9.own_lt (.inr (.inr (.inl rfl)) : k'.own j k'.R)).2
                have hRb : W10.heap[k'.R]? = (W9.alloc (.cells #[.int .i64 (t : Int)] 3)).drew.heap[k'.R]? := hg.block _ (by rw [hsz]; omega) fun e => ne_tagD hdA.tag.2.2.1 (hdA.tagv.2.2.2 q hq8 _ e.symm) (by decide) rfl
                have hBb : W10.heap[k'.B]? = (W9.alloc (.cells #[.int .i64 (t : Int)] 3)).drew.heap[k'.B]? := hg.block _ (by rw [hsz]; omega) fun e => ne_tagD hdA.tag.1 (hdA.tagv.2.2.2 q hq8 _ e.symm) (by decide) rfl
                have s0 : W10.cell? ⟨k'.R, q, none⟩ = some (k'.vr q) := (World.cell?_of_block (a := ⟨k'.R, q, none⟩) hRb).trans (hdA.rw_ q hq8).1
                have s1 : W10.frozen? ⟨k'.R, q, none⟩ = false := by
                  obtain ⟨cr, hcr⟩ := hdA.rb
                  exact frozen_of_row _ _ _ cr 52 (hRb.trans hcr)
                have s2 : W10.cell? ⟨k'.B, 2, none⟩ = some (.slice (some ⟨k'.R, 0, none⟩) 8 8) := (World.cell?_of_block (a := ⟨k'.B, 2, none⟩) hBb).trans hdA.cells.2.2.1
                rw [HBq.out] at u1 s2 hBl
                have hx1 : ¬ k.B = W9.heap.size := by omega
                have hx2 : ¬ W9.heap.size = k.B := by omega
                have hx3 : ¬ k'.R = W9.heap.size := by omega
                have hx4 : ¬ W9.heap.size = k'.R := by omega
                clear hd9 hbA hdA hsz hnw hr ho hg hv hd10 hf10 hRb hBb HPut
                generalize ((comJ s t q).ord q ++ [t]).length = ln at *
                generalize k'.vr q = vq at *
                go_upto_region 32 with fail
                refine wp_region_L (B := [18]) (S := (fun _ => True)) (T := (fun w' => w'.cell? ⟨k.B, 2, none⟩ = some (.slice (some ⟨k'.R, 0, none⟩) 8 8) ∧ w'.cell? ⟨k'.R, q, none⟩ = some vq)) (by kernel_rfl) ⟨trivial, u1, u2⟩ (fun hHeld => ?_)
                refine wpAnyL_take [18] (i := 0) (v := ?_) rfl (by kernel_rfl) (by kernel_rfl) (by kernel_rfl) (by kernel_rfl) (fun _ _ _ h => h) (Or.inl ⟨by rfl, ?_⟩) (by assumption) ?_
                rotate_left 1
                · intro wz ⟨_, y0, y1⟩
                  go_simp
                  all_goals with_reducible rfl
                simp only [Act.put, List.setIfInBounds_toArray, List.set_cons_zero, List.set_cons_succ, List.getElem_toArray, List.getElem_cons_zero]
                refine wpAnyL_take [18] (i := 1) (v := ?_) rfl (by kernel_rfl) (by kernel_rfl) (by kernel_rfl) (by kernel_rfl) (fun _ _ _ h => h) (Or.inl ⟨by rfl, ?_⟩) (by assumption) ?_
                rotate_left 1
                · intro wz ⟨_, y0, y1⟩
                  go_simp
                  all_goals with_reducible rfl
                simp only [Act.put, List.setIfInBounds_toArray, List.set_cons_zero, List.set_cons_succ, List.getElem_toArray, List.getElem_cons_zero, List.getElem_cons_succ]
                refine wpAnyL_take [18] (i := 2) (v := ?_) rfl (by kernel_rfl) (by kernel_rfl) (by kernel_rfl) (by kernel_rfl) (fun _ _ _ h => h) (Or.inl ⟨by rfl, ?_⟩) (by assumption) ?_
                rotate_left 1
                · intro wz ⟨_, y0, y1⟩
                  go_simp
                  all_goals with_reducible rfl
                simp only [Act.put, List.setIfInBounds_toArray, List.set_cons_zero, List.set_cons_succ, List.getElem_toArray, List.getElem_cons_zero, List.getElem_cons_succ]
                refine wpAnyL_take [18] (i := 3) (v := ?_) rfl (by kernel_rfl) (by kernel_rfl) (by kernel_rfl) (by kernel_rfl) (fun _ _ _ h => h) (Or.inl ⟨by rfl, ?_⟩) (by assumption) ?_
                rotate_left 1
                · intro wz ⟨_, y0, y1⟩
                  go_simp
                  all_goals with_reducible rfl
                simp only [Act.put, List.setIfInBounds_toArray, List.set_cons_zero, List.set_cons_succ, List.getElem_toArray, List.getElem_cons_zero, List.getElem_cons_succ]
                refine wpAnyL_take [18] (i := 4) (v := ?_) rfl (by kernel_rfl) (by kernel_rfl) (by kernel_rfl) (by kernel_rfl) (fun _ _ _ h => h) (Or.inl ⟨by rfl, ?_⟩) (by assumption) ?_
                rotate_left 1
                · intro wz ⟨_, y0, y1⟩
                  go_simp
                  all_goals with_reducible rfl
                simp only [Act.put, List.setIfInBounds_toArray, List.set_cons_zero, List.set_cons_succ, List.getElem_toArray, List.getElem_cons_zero, List.getElem_cons_succ]
                refine wpAnyL_take [18] (i := 5) (v := ?_) rfl (by kernel_rfl) (by kernel_rfl) (by kernel_rfl) (by kernel_rfl) (fun _ _ _ h => h) (Or.inl ⟨by rfl, ?_⟩) (by assumption) ?_
                rotate_left 1
                · intro wz ⟨_, y0, y1⟩
                  go_simp
                  all_goals with_reducible rfl
                simp only [Act.put, List.setIfInBounds_toArray, List.set_cons_zero, List.set_cons_succ, List.getElem_toArray, List.getElem_cons_zero, List.getElem_cons_succ]
                refine wpAnyL_take [18] (i := 6) (v := ?_) rfl (by kernel_rfl) (by kernel_rfl) (by kernel_rfl) (by kernel_rfl) (fun _ _ _ h => h) (Or.inl ⟨by rfl, ?_⟩) (by assumption) ?_
                rotate_left 1
                · intro wz ⟨_, y0, y1⟩
                  go_simp
                  all_goals with_reducible rfl
                simp only [Act.put, List.setIfInBounds_toArray, List.set_cons_zero, List.set_cons_succ, List.getElem_toArray, List.getElem_cons_zero, List.getElem_cons_succ]
                refine wpAnyL_take [18] (i := 7) (v := ?_) rfl (by kernel_rfl) (by kernel_rfl) (by kernel_rfl) (by kernel_rfl) (fun _ _ _ h => h) (Or.inl ⟨by rfl, ?_⟩) (by assumption) ?_
                rotate_left 1
                · intro wz ⟨_, y0, y1⟩
                  go_simp
                  all_goals with_reducible rfl
                simp only [Act.put, List.setIfInBounds_toArray, List.set_cons_zero, List.set_cons_succ, List.getElem_toArray, List.getElem_cons_zero, List.getElem_cons_succ]
                refine wpAnyL_take [18] (i := 8) (v := ?_) rfl (by kernel_rfl) (by kernel_rfl) (by kernel_rfl) (by kernel_rfl) (fun _ _ _ h => h) (Or.inl ⟨by rfl, ?_⟩) (by assumption) ?_
                rotate_left 1
                · intro wz ⟨_, y0, y1⟩
                  go_simp
                  all_goals with_reducible rfl
                simp only [Act.put, List.setIfInBounds_toArray, List.set_cons_zero, List.set_cons_succ, List.getElem_toArray, List.getElem_cons_zero, List.getElem_cons_succ]
                refine wpAnyL_take [18] (i := 9) (v := ?_) rfl (by kernel_rfl) (by kernel_rfl) (by kernel_rfl) (by kernel_rfl) (fun _ _ _ h => h) (Or.inl ⟨by rfl, ?_⟩) (by assumption) ?_
                rotate_left 1
                · intro wz ⟨_, y0, y1⟩
                  go_simp
                  all_goals with_reducible rfl
                simp only [Act.put, List.setIfInBounds_toArray, List.set_cons_zero, List.set_cons_succ, List.getElem_toArray, List.getElem_cons_zero, List.getElem_cons_succ]
                refine wpAnyL_take [18] (i := 10) (v := ?_) rfl (by kernel_rfl) (by kernel_rfl) (by kernel_rfl) (by kernel_rfl) (fun _ _ _ h => h) (Or.inl ⟨by rfl, ?_⟩) (by assumption) ?_
                rotate_left 1
                · intro wz ⟨_, y0, y1⟩
                  go_simp
                  all_goals with_reducible rfl
                simp only [Act.put, List.setIfInBounds_toArray, List.set_cons_zero, List.set_cons_succ, List.getElem_toArray, List.getElem_cons_zero, List.getElem_cons_succ]
                refine wpAnyL_take [18] (i := 11) (v := ?_) rfl (by kernel_rfl) (by kernel_rfl) (by kernel_rfl) (by kernel_rfl) (fun _ _ _ h => h) (Or.inl ⟨by rfl, ?_⟩) (by assumption) ?_
                rotate_left 1
                · intro wz ⟨_, y0, y1⟩
                  go_simp
                  all_goals with_reducible rfl
                simp only [Act.put, List.setIfInBounds_toArray, List.set_cons_zero, List.set_cons_succ, List.getElem_toArray, List.getElem_cons_zero, List.getElem_cons_succ]
                refine wpAnyL_take [18] (i := 12) (v := ?_) rfl (by kernel_rfl) (by kernel_rfl) (by kernel_rfl) (by kernel_rfl) (fun _ _ _ h => h) (Or.inl ⟨by rfl, ?_⟩) (by assumption) ?_
                rotate_left 1
                · intro wz ⟨_, y0, y1⟩
                  go_simp
                  all_goals with_reducible rfl
                simp only [Act.put, List.setIfInBounds_toArray, List.set_cons_zero, List.set_cons_succ, List.getElem_toArray, List.getElem_cons_zero, List.getElem_cons_succ]
                refine wpAnyL_take [18] (i := 13) (v := ?_) rfl (by kernel_rfl) (by kernel_rfl) (by kernel_rfl) (by kernel_rfl) (fun _ _ _ h => h) (Or.inl ⟨by rfl, ?_⟩) (by assumption) ?_
                rotate_left 1
                · intro wz ⟨_, y0, y1⟩
                  go_simp
                  all_goals with_reducible rfl
                simp only [Act.put, List.setIfInBounds_toArray, List.set_cons_zero, List.set_cons_succ, List.getElem_toArray, List.getElem_cons_zero, List.getElem_cons_succ]
                refine wpAnyL_take [18] (i := 14) (v := ?_) rfl (by kernel_rfl) (by kernel_rfl) (by kernel_rfl) (by kernel_rfl) (fun _ _ _ h => h) (Or.inl ⟨by rfl, ?_⟩) (by assumption) ?_
                rotate_left 1
                · intro wz ⟨_, y0, y1⟩
                  go_simp
                  all_goals with_reducible rfl
                simp only [Act.put, List.setIfInBounds_toArray, List.set_cons_zero, List.set_cons_succ, List.getElem_toArray, List.getElem_cons_zero, List.getElem_cons_succ]
                refine wpAnyL_ready (rs := [15]) (by kernel_rfl) (by simp) (AllReadyL.cons rfl (fun K hK => ?_) AllReadyL.nil)
                go_simp
                refine hK.out _ _ ?_ (fun hHeld => ?_)
                · exact ⟨trivial, cellA u1, cellA u2⟩
                clear hK K
                refine wpAnyL_ready (rs := [16]) (by kernel_rfl) (by simp) (AllReadyL.cons rfl (fun K hK => ?_) AllReadyL.nil)
                refine step_append_run (by rfl) _ _ 52 (by rfl) _ _ _ W10 (by rfl) (by rfl) HR.out ?_
                refine hK.out _ _ ?_ (fun hHeld => ?_)
                · exact ⟨trivial, s2, s0⟩
                clear hK K
                simp only [Act.put, List.setIfInBounds_toArray, List.set_cons_zero, List.set_cons_succ, List.getElem_toArray, List.getElem_cons_zero, List.getElem_cons_succ]
                refine wpAnyL_take [18] (i := 17) (v := ?_) rfl (by kernel_rfl) (by kernel_rfl) (by kernel_rfl) (by kernel_rfl) (fun _ _ _ h => h) (Or.inl ⟨by rfl, ?_⟩) (by assumption) ?_
                rotate_left 1
                · intro wz ⟨_, y0, y1⟩
                  go_simp
                  all_goals with_reducible rfl
                simp only [Act.put, List.setIfInBounds_toArray, List.set_cons_zero, List.set_cons_succ, List.getElem_toArray, List.getElem_cons_zero, List.getElem_cons_succ]
                refine wpAnyL_ready (rs := [18]) (by kernel_rfl) (by simp) (AllReadyL.last rfl (by kernel_rfl) (fun K hK => ?_) AllReadyL.nil)
                go_simp
                refine hK.out _ _ trivial (fun hHeld => ?_)
                clear hK K
                refine wpAnyL_done (by kernel_rfl) ?_ _
                go_wp2
                go_roundw
                case rel => exact ⟨q + 1, by omega, by go_num, _, R1.out, R2.out⟩
                case measure => simp [intOf]; omega
              · have dw : decide ((0 : Int) < (wrN (s.ops t) q : Int)) = false := decide_eq_false (by omega)
                have R1 := HDq.out.below HB9.out
                rw [comJ_skip hw] at R1
                have R1 := hideIt R1
                have R2 := hideIt (HFq.out.trans (DFr.below HB9.out))
                go_wp2
                go_roundw
                case rel => exact ⟨q + 1, by omega, by go_num, _, R1.out, R2.out⟩
                case measure => simp [intOf]; omega
            · obtain rfl : q = 8 := by omega
              have R1 : Hid (DocB w0 wq k' c j (comS s t)) := hd.ordSame (f := (comS s t).ord) fun q hq => by
                show ordJ s t 8 q = if 0 < wrN (s.ops t) q then s.ord q ++ [t] else s.ord q
                unfold ordJ
                by_cases h : 0 < wrN (s.ops t) q
                · rw [if_pos ⟨hq, h⟩, if_pos h]
                · rw [if_neg (fun h' => h h'.2), if_neg h]
              clear hB hd hf
              go_wp2
              go_ret
              exact ⟨k', by rw [HRf0.out]; rfl, by rw [HRf0.out]; exact R1.out, HFq.out⟩

end Go.Proofs.YtaopigjhdkdklaaDoor
