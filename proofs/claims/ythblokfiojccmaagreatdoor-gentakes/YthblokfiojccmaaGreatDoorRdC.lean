/-
  The reader's number, key and write.
-/
import Derived.Test.YthblokfiojccmaaGreatDoorRdB
namespace Go.Proofs.YthblokfiojccmaaGreatDoor.Gn
open Go.RowKit

noncomputable def gRng : Nat := (Tryz.prog.globalNamed "strconv.ErrRange").getD 0
noncomputable def gSyn : Nat := (Tryz.prog.globalNamed "strconv.ErrSyntax").getD 0
theorem gRng_eq : Tryz.prog.globalNamed "strconv.ErrRange" = some gRng := by kernel_rfl
theorem gSyn_eq : Tryz.prog.globalNamed "strconv.ErrSyntax" = some gSyn := by kernel_rfl
theorem var_blk {w w' : World} {nm : String} {g : Nat} {cs : Array Value} (hg : Tryz.prog.globalNamed nm = some g) (h : w.var? Tryz.prog nm = some cs) : g < w.heap.size ∧ (w'.heap[g]? = w.heap[g]? → w'.var? Tryz.prog nm = some cs) := by
  unfold World.var? at h ⊢
  rw [hg] at h ⊢
  simp only [Option.bind_some] at h ⊢
  refine ⟨?_, fun e => by rw [e]; exact h⟩
  rcases Nat.lt_or_ge g w.heap.size with hl | hl
  · exact hl
  · rw [Array.getElem?_eq_none hl] at h; cases h
theorem ErrV.lt {w : World} (h : ErrV w) : gRng < w.heap.size ∧ gSyn < w.heap.size := by
  obtain ⟨⟨tp, p, h1⟩, ⟨tq, q, h2⟩⟩ := h
  exact ⟨(var_blk (w' := w) gRng_eq h1).1, (var_blk (w' := w) gSyn_eq h2).1⟩
theorem ErrV.fr {w w' : World} {X : List Nat} (h : ErrV w) (hg : Fr X w w') (h1 : gRng ∉ X) (h2 : gSyn ∉ X) : ErrV w' := by
  have hl := h.lt
  obtain ⟨⟨tp, p, k1⟩, ⟨tq, q, k2⟩⟩ := h
  exact ⟨⟨tp, p, (var_blk gRng_eq k1).2 (hg.block _ hl.1 h1)⟩, ⟨tq, q, (var_blk gSyn_eq k2).2 (hg.block _ hl.2 h2)⟩⟩

structure Ns where
  v : Int
  a : Nat
  f : Int
/-- What number does. -/
def numS (L : List Bt) (a : Nat) (fl lo hi : Int) : Ns :=
  if isNum (L.getD a []) = true then match Lib.atoiAll (L.getD a []) with
    | .ok n => if n < lo ∨ hi < n then ⟨0, a, failS fl 2⟩ else ⟨n, passS L.length a fl, fl⟩
    | _ => ⟨0, a, failS fl 2⟩
  else ⟨0, a, failS fl 3⟩

/-- What the reader is asked to hold besides. -/
structure RdEnv (w : World) (R : Nat) (L : List Bt) : Prop where
  err : ErrV w
  g1 : gRng < R
  g2 : gSyn < R
  short : ∀ t ∈ L, t.length ≤ 2500
theorem RdEnv.fr {w w' : World} {R : Nat} {L : List Bt} {X : List Nat} (h : RdEnv w R L) (hg : Fr X w w') (hX : ∀ x ∈ X, R ≤ x) : RdEnv w' R L :=
  ⟨h.err.fr hg (fun e => by have := hX _ e; have := h.g1; omega) (fun e => by have := hX _ e; have := h.g2; omega), h.g1, h.g2, h.short⟩
theorem RdEnv.get {w : World} {R : Nat} {L : List Bt} (h : RdEnv w R L) (a : Nat) : (L.getD a []).length ≤ 2500 := by
  rw [List.getD_eq_getElem?_getD]
  cases e : L[a]? with
  | none => simp
  | some t => exact h.short t (List.mem_of_getElem? e)

set_option maxHeartbeats 4000000 in
set_option maxRecDepth 100000 in
theorem number_any (w : World) (R S : Nat) (L : List Bt) (a : Nat) (fl lo hi : Int) (h : RdAt w R S L a fl) (he : RdEnv w R L) :
    Calls Tryz.prog 26 #[.pointer (some ⟨R, 0, none⟩), .int .i64 lo, .int .i64 hi] w fun e w' => e = .returned (.int .i64 (numS L a fl lo hi).v) ∧ RdAt w' R S L (numS L a fl lo hi).a (numS L a fl lo hi).f ∧ Fr [R] w w' := by
  have HH := hideIt h
  have HE := hideIt he
  have hS : S ≠ R := h.ne
  have HN := hideIt (next_any w R S L a fl h)
  have hlen := he.get a
  have HI := hideIt (fun W => isNumber_any (L.getD a []) W hlen)
  have HA := hideIt (fun W (hv : ErrV W) => atoi_call (L.getD a []) W (by omega) hv)
  obtain ⟨q, hq⟩ : ∃ q, numS L a fl lo hi = q := ⟨_, rfl⟩
  have hq' := hq
  rw [hq]
  unfold numS at hq'
  have HQ := hideIt hq'
  clear h he hlen hq hq'
  generalize L.getD a [] = t at *
  cases hn : isNum t with
  | false =>
    have e1 : q = ⟨0, a, failS fl 3⟩ := by rw [← HQ.out, hn]; rfl
    rw [hn] at HI
    subst e1
    clear HQ hn
    go_enter Tryz.func26, Tryz.ntmps26
    go_wp2_with fail
    refine HN.out.mono ?_
    rintro y w1 ⟨rfl, k1, rfl⟩
    go_wp2_with fail
    refine (HI.out _).mono ?_
    rintro y w2 ⟨rfl, hf2⟩
    have HF2 := hideIt ((Fr.drewN [R] w k1).trans (hf2.more (by simp)))
    have HR2 := hideIt (HH.out.fr ((Fr.drewN [] w k1).trans hf2) (by simp) (by simp))
    clear hf2
    go_wp2_with fail
    refine (fail_any _ R S L a fl 3 HR2.out).mono ?_
    rintro y w3 ⟨rfl, h3, hf3⟩
    have H3 := hideIt h3
    have HF3 := hideIt (HF2.out.trans hf3)
    clear h3 hf3
    go_wp2
    go_ret
    exact ⟨rfl, H3.out, HF3.out⟩
  | true =>
    rw [hn] at HI
    have hqt := HQ.out
    rw [hn, if_pos rfl] at hqt
    have HQ2 := hideIt hqt
    clear HQ hn hqt
    go_enter Tryz.func26, Tryz.ntmps26
    go_wp2_with fail
    refine HN.out.mono ?_
    rintro y w1 ⟨rfl, k1, rfl⟩
    go_wp2_with fail
    refine (HI.out _).mono ?_
    rintro y w2 ⟨rfl, hf2⟩
    have hF2 := (Fr.drewN [] w k1).trans hf2
    have HF2 := hideIt hF2
    have HR2 := hideIt (HH.out.fr hF2 (by simp) (by simp))
    have HV2 := hideIt (HE.out.err.fr hF2 (by simp) (by simp))
    clear hf2 hF2
    go_wp2_with fail
    refine (HA.out _ HV2.out).mono ?_
    rintro y w3 ⟨hf3, ⟨v, hv, rfl⟩ | ⟨hv, n, T, x, rfl⟩⟩
    · have HF3 := hideIt (HF2.out.trans hf3)
      have HR3 := hideIt (HR2.out.fr hf3 (by simp) (by simp))
      have hq2 := HQ2.out
      rw [hv] at hq2
      simp only at hq2
      clear hf3 hv HQ2
      by_cases hlo : v < lo
      · have e1 : q = ⟨0, a, failS fl 2⟩ := by rw [← hq2, if_pos (Or.inl hlo)]
        subst e1
        clear hq2
        go_wp2_with fail
        refine (fail_any _ R S L a fl 2 HR3.out).mono ?_
        rintro y w4 ⟨rfl, h4, hf4⟩
        have H4 := hideIt h4
        have HF4 := hideIt ((HF3.out.more (Y := [R]) (by simp)).trans hf4)
        clear h4 hf4
        go_wp2
        go_ret
        exact ⟨rfl, H4.out, HF4.out⟩
      · by_cases hhi : hi < v
        · have e1 : q = ⟨0, a, failS fl 2⟩ := by rw [← hq2, if_pos (Or.inr hhi)]
          subst e1
          clear hq2
          go_wp2_with fail
          refine (fail_any _ R S L a fl 2 HR3.out).mono ?_
          rintro y w4 ⟨rfl, h4, hf4⟩
          have H4 := hideIt h4
          have HF4 := hideIt ((HF3.out.more (Y := [R]) (by simp)).trans hf4)
          clear h4 hf4
          go_wp2
          go_ret
          exact ⟨rfl, H4.out, HF4.out⟩
        · have e1 : q = ⟨v, passS L.length a fl, fl⟩ := by rw [← hq2, if_neg (by omega)]
          subst e1
          clear hq2
          go_wp2_with fail
          refine (pass_any _ R S L a fl HR3.out).mono ?_
          rintro y w4 ⟨rfl, h4, hf4⟩
          have H4 := hideIt h4
          have HF4 := hideIt ((HF3.out.more (Y := [R]) (by simp)).trans hf4)
          clear h4 hf4
          go_wp2
          go_ret
          exact ⟨rfl, H4.out, HF4.out⟩
    · have HF3 := hideIt (HF2.out.trans hf3)
      have HR3 := hideIt (HR2.out.fr hf3 (by simp) (by simp))
      have e1 : q = ⟨0, a, failS fl 2⟩ := by
        rw [← HQ2.out]
        cases ha : Lib.atoiAll t with
        | ok v => exact absurd ha (hv v)
        | «syntax» => rfl
        | range => rfl
      subst e1
      clear HQ2 hv hf3
      go_wp2_with fail
      refine (fail_any _ R S L a fl 2 HR3.out).mono ?_
      rintro y w4 ⟨rfl, h4, hf4⟩
      have H4 := hideIt h4
      have HF4 := hideIt ((HF3.out.more (Y := [R]) (by simp)).trans hf4)
      clear h4 hf4
      go_wp2
      go_ret
      exact ⟨rfl, H4.out, HF4.out⟩
end Go.Proofs.YthblokfiojccmaaGreatDoor.Gn
