/-
  The document's Do: all of it.
-/
import Derived.Test.YtaopigjhdkdklaaDoorDdR
import Derived.Test.YtaopigjhdkdklaaDoorDdF
import Derived.Test.YtaopigjhdkdklaaDoorDdG
namespace Go.Proofs.YtaopigjhdkdklaaDoor
open Go.RowKit
section
variable {w0 W : World} {k : DbK} {c : Bool} {n : Nat} {st : MvS}
theorem flt_in {t : Nat} (ht : t < n) {m : Int} (hm : ¬ m < 0) (h7 : ¬ 7 < m) : ¬ ((t : Int) < 0 ∨ (n : Int) ≤ (t : Int) ∨ m < 0 ∨ 7 < m) := by omega
theorem flt_1 {t : Nat} (ht : t < n) {kd m : Int} (hm : ¬ m < 0) (h7 : ¬ 7 < m) (hk : kd < 1 ∨ 5 < kd ∨ (kd ≠ 2 ∧ kd ≠ 3 ∧ m ≠ 0)) : fltA n st t kd m = 1 := by
  unfold fltA
  rw [if_neg (flt_in ht hm h7), if_pos hk]
theorem flt_6 {t : Nat} (ht : t < n) {kd m : Int} (hm : ¬ m < 0) (h7 : ¬ 7 < m) (hk : ¬ (kd < 1 ∨ 5 < kd ∨ (kd ≠ 2 ∧ kd ≠ 3 ∧ m ≠ 0))) (ho : st.ov t = true ∨ (0 ≤ st.bg t ↔ kd = 1)) : fltA n st t kd m = 6 := by
  unfold fltA
  rw [if_neg (flt_in ht hm h7), if_neg hk, Int.toNat_natCast, if_pos ho]
theorem flt_4 {t : Nat} (ht : t < n) {kd m : Int} (hm : ¬ m < 0) (h7 : ¬ 7 < m) (hk : ¬ (kd < 1 ∨ 5 < kd ∨ (kd ≠ 2 ∧ kd ≠ 3 ∧ m ≠ 0))) (ho : ¬ (st.ov t = true ∨ (0 ≤ st.bg t ↔ kd = 1))) (hl : (st.ops t).length = 60 ∧ (kd = 2 ∨ kd = 3)) : fltA n st t kd m = 4 := by
  unfold fltA
  rw [if_neg (flt_in ht hm h7), if_neg hk, Int.toNat_natCast, if_neg ho, if_pos hl]
theorem flt_0 {t : Nat} (ht : t < n) {kd m : Int} (hm : ¬ m < 0) (h7 : ¬ 7 < m) (hk : ¬ (kd < 1 ∨ 5 < kd ∨ (kd ≠ 2 ∧ kd ≠ 3 ∧ m ≠ 0))) (ho : ¬ (st.ov t = true ∨ (0 ≤ st.bg t ↔ kd = 1))) (hl : ¬ ((st.ops t).length = 60 ∧ (kd = 2 ∨ kd = 3))) : fltA n st t kd m = 0 := by
  unfold fltA
  rw [if_neg (flt_in ht hm h7), if_neg hk, Int.toNat_natCast, if_neg ho, if_neg hl]
theorem tell_flt {p kd m F : Int} (h0 : F ≠ 0) (hf : fltA n st p kd m = F) : tellM c n st p kd m = F ∧ doM c n st p kd m = st := by
  unfold tellM doM
  rw [hf, if_pos h0, if_pos h0]
  exact ⟨rfl, rfl⟩
theorem tell_ok {t : Nat} {kd m : Int} (hf : fltA n st t kd m = 0) : tellM c n st t kd m = (if kd = 4 ∧ refB c n st t = true then 12 else 0) ∧ doM c n st t kd m = (if kd = 1 then begM st t else if kd = 2 then pushM st t (rdM st t m.toNat) else if kd = 3 then pushM st t ⟨true, m, 0, 0⟩ else if kd = 4 then (if refB c n st t = true then aboM st t else comM st t) else aboM st t) := by
  unfold tellM doM
  rw [hf, Int.toNat_natCast]
  exact ⟨if_neg (by decide), if_neg (by decide)⟩
theorem ddo_any (h : DocB w0 W k c n st) (hI : MvI n st) (hn : n ≤ 8) (htm : st.tm ≤ 1000) (p kd m : Int) :
    Calls Tryd.prog 12 #[.pointer (some ⟨k.B, 0, none⟩), .agg #[.int .i64 p, .int .i64 kd, .int .i64 m]] W fun e W' => DdTold w0 W k c n (tellM c n st p kd m) (doM c n st p kd m) e W' := by
  have bad : ∀ F : Int, F ≠ 0 → fltA n st p kd m = F → (Calls Tryd.prog 12 #[.pointer (some ⟨k.B, 0, none⟩), .agg #[.int .i64 p, .int .i64 kd, .int .i64 m]] W fun e W' => DdTold w0 W k c n F st e W') → Calls Tryd.prog 12 #[.pointer (some ⟨k.B, 0, none⟩), .agg #[.int .i64 p, .int .i64 kd, .int .i64 m]] W fun e W' => DdTold w0 W k c n (tellM c n st p kd m) (doM c n st p kd m) e W' := fun F h0 hf hc => by
    rw [(tell_flt (c := c) h0 hf).1, (tell_flt (c := c) h0 hf).2]
    exact hc
  by_cases a1 : p < 0
  · exact bad 2 (by decide) (by unfold fltA; rw [if_pos (.inl a1)]) (ddo_f1a h a1)
  by_cases a2 : (n : Int) ≤ p
  · exact bad 2 (by decide) (by unfold fltA; rw [if_pos (.inr (.inl a2))]) (ddo_f1b h a1 a2)
  by_cases a3 : m < 0
  · exact bad 2 (by decide) (by unfold fltA; rw [if_pos (.inr (.inr (.inl a3)))]) (ddo_f1c h a1 a2 a3)
  by_cases a4 : 7 < m
  · exact bad 2 (by decide) (by unfold fltA; rw [if_pos (.inr (.inr (.inr a4)))]) (ddo_f1d h a1 a2 a3 a4)
  obtain ⟨t, rfl⟩ : ∃ t : Nat, p = t := ⟨p.toNat, by omega⟩
  have ht : t < n := by omega
  by_cases b1 : kd < 1
  · exact bad 1 (by decide) (flt_1 ht a3 a4 (.inl b1)) (ddo_f2a h ht a3 a4 b1)
  by_cases b2 : 5 < kd
  · exact bad 1 (by decide) (flt_1 ht a3 a4 (.inr (.inl b2))) (ddo_f2b h ht a3 a4 b1 b2)
  have bgl := (hI.bgl t).2
  obtain rfl | rfl | rfl | rfl | rfl : kd = 1 ∨ kd = 2 ∨ kd = 3 ∨ kd = 4 ∨ kd = 5 := by omega
  · by_cases c0 : m = 0
    · subst c0
      cases hov : st.ov t
      · by_cases c1 : 0 ≤ st.bg t
        · exact bad 6 (by decide) (flt_6 ht a3 a4 (by omega) (.inr ⟨fun _ => rfl, fun _ => c1⟩)) (ddo_f3b1 h ht hI.opl hov c1)
        · have ho : ¬ (st.ov t = true ∨ (0 ≤ st.bg t ↔ (1 : Int) = 1)) := by
            rintro (e | e)
            · rw [hov] at e; cases e
            · exact c1 (e.2 rfl)
          obtain ⟨e1, e2⟩ := tell_ok (c := c) (flt_0 (st := st) ht a3 a4 (kd := 1) (by omega) ho (by omega))
          rw [e1, e2, if_neg (by omega), if_pos rfl]
          exact ddo_begin h hI htm ht hov (by omega)
      · exact bad 6 (by decide) (flt_6 ht a3 a4 (by omega) (.inl hov)) (ddo_f3o1 h ht hI.opl hov)
    · exact bad 1 (by decide) (flt_1 ht a3 a4 (.inr (.inr ⟨by decide, by decide, c0⟩))) (ddo_f2c h ht a3 a4 c0)
  · obtain ⟨q, rfl⟩ : ∃ q : Nat, m = q := ⟨m.toNat, by omega⟩
    cases hov : st.ov t
    · by_cases c1 : 0 ≤ st.bg t
      · have ho : ¬ (st.ov t = true ∨ (0 ≤ st.bg t ↔ (2 : Int) = 1)) := by
          rintro (e | e)
          · rw [hov] at e; cases e
          · exact absurd (e.1 c1) (by decide)
        by_cases c2 : (st.ops t).length = 60
        · exact bad 4 (by decide) (flt_4 ht a3 a4 (by omega) ho ⟨c2, .inl rfl⟩) (ddo_f42 h ht hI.opl a3 a4 hov c1 c2)
        · obtain ⟨e1, e2⟩ := tell_ok (c := c) (flt_0 (st := st) ht a3 a4 (kd := 2) (by omega) ho (fun e => c2 e.1))
          rw [e1, e2, if_neg (by omega), if_neg (by omega), if_pos rfl, Int.toNat_natCast]
          exact ddo_read h hI hn htm ht (by omega) hov (by omega) (by have := hI.opl t; omega)
      · exact bad 6 (by decide) (flt_6 ht a3 a4 (by omega) (.inr ⟨fun e => absurd e c1, fun e => absurd e (by decide)⟩)) (ddo_f3b2 h ht hI.opl a3 a4 hov (by omega))
    · exact bad 6 (by decide) (flt_6 ht a3 a4 (by omega) (.inl hov)) (ddo_f3o2 h ht hI.opl a3 a4 hov)
  · obtain ⟨q, rfl⟩ : ∃ q : Nat, m = q := ⟨m.toNat, by omega⟩
    cases hov : st.ov t
    · by_cases c1 : 0 ≤ st.bg t
      · have ho : ¬ (st.ov t = true ∨ (0 ≤ st.bg t ↔ (3 : Int) = 1)) := by
          rintro (e | e)
          · rw [hov] at e; cases e
          · exact absurd (e.1 c1) (by decide)
        by_cases c2 : (st.ops t).length = 60
        · exact bad 4 (by decide) (flt_4 ht a3 a4 (by omega) ho ⟨c2, .inr rfl⟩) (ddo_f43 h ht hI.opl a3 a4 hov c1 c2)
        · obtain ⟨e1, e2⟩ := tell_ok (c := c) (flt_0 (st := st) ht a3 a4 (kd := 3) (by omega) ho (fun e => c2 e.1))
          rw [e1, e2, if_neg (by omega), if_neg (by omega), if_neg (by omega), if_pos rfl]
          exact ddo_write h hI htm ht (by omega) hov (by omega) (by have := hI.opl t; omega)
      · exact bad 6 (by decide) (flt_6 ht a3 a4 (by omega) (.inr ⟨fun e => absurd e c1, fun e => absurd e (by decide)⟩)) (ddo_f3b3 h ht hI.opl a3 a4 hov (by omega))
    · exact bad 6 (by decide) (flt_6 ht a3 a4 (by omega) (.inl hov)) (ddo_f3o3 h ht hI.opl a3 a4 hov)
  · by_cases c0 : m = 0
    · subst c0
      cases hov : st.ov t
      · by_cases c1 : 0 ≤ st.bg t
        · have ho : ¬ (st.ov t = true ∨ (0 ≤ st.bg t ↔ (4 : Int) = 1)) := by
            rintro (e | e)
            · rw [hov] at e; cases e
            · exact absurd (e.1 c1) (by decide)
          obtain ⟨e1, e2⟩ := tell_ok (c := c) (flt_0 (st := st) ht a3 a4 (kd := 4) (by omega) ho (by omega))
          have e3 : doM c n st t 4 0 = if refB c n st t = true then aboM st t else comM st t := by rw [e2, if_neg (by decide), if_neg (by decide), if_neg (by decide), if_pos rfl]
          rw [e1, e3]
          refine ddo_commit h hI hn htm ht (hideIt ?_) (hideIt rfl) hov (by omega)
          by_cases hr : refB c n st t = true
          · rw [if_pos ⟨rfl, hr⟩, if_pos hr]
          · rw [if_neg (fun e => hr e.2), if_neg hr]
        · exact bad 6 (by decide) (flt_6 ht a3 a4 (by omega) (.inr ⟨fun e => absurd e c1, fun e => absurd e (by decide)⟩)) (ddo_f3b4 h ht hI.opl hov (by omega))
      · exact bad 6 (by decide) (flt_6 ht a3 a4 (by omega) (.inl hov)) (ddo_f3o4 h ht hI.opl hov)
    · exact bad 1 (by decide) (flt_1 ht a3 a4 (.inr (.inr ⟨by decide, by decide, c0⟩))) (ddo_f2d h ht a3 a4 c0)
  · by_cases c0 : m = 0
    · subst c0
      cases hov : st.ov t
      · by_cases c1 : 0 ≤ st.bg t
        · have ho : ¬ (st.ov t = true ∨ (0 ≤ st.bg t ↔ (5 : Int) = 1)) := by
            rintro (e | e)
            · rw [hov] at e; cases e
            · exact absurd (e.1 c1) (by decide)
          obtain ⟨e1, e2⟩ := tell_ok (c := c) (flt_0 (st := st) ht a3 a4 (kd := 5) (by omega) ho (by omega))
          rw [e1, e2, if_neg (by omega), if_neg (by omega), if_neg (by omega), if_neg (by omega), if_neg (by omega)]
          exact ddo_abort h hI htm ht hov (by omega)
        · exact bad 6 (by decide) (flt_6 ht a3 a4 (by omega) (.inr ⟨fun e => absurd e c1, fun e => absurd e (by decide)⟩)) (ddo_f3b5 h ht hI.opl hov (by omega))
      · exact bad 6 (by decide) (flt_6 ht a3 a4 (by omega) (.inl hov)) (ddo_f3o5 h ht hI.opl hov)
    · exact bad 1 (by decide) (flt_1 ht a3 a4 (.inr (.inr ⟨by decide, by decide, c0⟩))) (ddo_f2e h ht a3 a4 c0)
end
end Go.Proofs.YtaopigjhdkdklaaDoor
