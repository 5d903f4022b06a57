/-
  A region that draws its order, by what each of its operations yields: nothing is asked of the order. Each operation is asked to yield something of which its word holds, and to make memory alone.
-/
import Derived.Test.YthphoiadhddggaaBsG
namespace Go.Proofs.Ythphoiadhddggaa
open Go.RowKit

section
variable {P : Program} {ops : Array Oper} {Q : Exit → Act → World → Prop} {md : Region.Mode}
/-- How many have not come up yet. -/
def unl (listed : Array Bool) (n : Nat) : Nat := ((List.range n).filter fun i => !listed.getD i true).length
theorem unl_set {listed : Array Bool} {n i : Nat} (hi : i < n) (h : listed.getD i true = false) : unl (listed.setIfInBounds i true) n + 1 ≤ unl listed n := by
  unfold unl
  have hsz : i < listed.size := by
    by_cases hs : i < listed.size
    · exact hs
    · simp [Array.getElem?_eq_none (Nat.not_lt.1 hs)] at h
  have hmem : i ∈ (List.range n).filter fun i => !listed.getD i true := by
    rw [List.mem_filter, List.mem_range]
    exact ⟨hi, by rw [h]; rfl⟩
  have hsub : ((List.range n).filter fun k => !(listed.setIfInBounds i true).getD k true).length + 1 ≤ ((List.range n).filter fun i => !listed.getD i true).length := by
    have e : ((List.range n).filter fun k => !(listed.setIfInBounds i true).getD k true) = ((List.range n).filter fun i => !listed.getD i true).filter fun k => decide (k ≠ i) := by
      rw [List.filter_filter]
      refine List.filter_congr fun k _ => ?_
      by_cases hk : k = i
      · subst hk
        simp [hsz]
      · have : (listed.setIfInBounds i true).getD k true = listed.getD k true := by
          simp only [Array.getD_eq_getD_getElem?]
          rw [Array.getElem?_setIfInBounds_ne (Ne.symm hk)]
        rw [this]
        simp [hk]
    rw [e]
    have : (((List.range n).filter fun i => !listed.getD i true).filter fun k => decide (k ≠ i)).length < ((List.range n).filter fun i => !listed.getD i true).length := List.length_filter_lt_length_iff_exists.2 ⟨i, hmem, by simp⟩
    omega
  exact hsub
theorem wpAny_inv (I : Array Bool → Act → World → Prop)
    (hstep : ∀ listed a w i, I listed a w → i ∈ Region.ready md ops listed → wpOp P ops Q i (fun a' w' => I (listed.setIfInBounds i true) a' w') a w)
    (hfin : ∀ listed a w, I listed a w → Region.ready md ops listed = [] → Q .normal a w) :
    ∀ (fuel : Nat) (listed : Array Bool) (a : Act) (w : World), unl listed ops.size ≤ fuel → I listed a w → wpAny P md ops Q fuel listed a w
  | 0, listed, a, w, hf, hI => by
    have hr : Region.ready md ops listed = [] := by
      have : ((List.range ops.size).filter fun i => !listed.getD i true) = [] := List.eq_nil_of_length_eq_zero (Nat.le_zero.1 hf)
      unfold Region.ready
      rw [List.filter_eq_nil_iff] at this ⊢
      intro i hi h
      simp only [Bool.and_eq_true] at h
      exact this i hi h.1
    exact ⟨hr, hfin _ _ _ hI hr⟩
  | fuel + 1, listed, a, w, hf, hI => by
    refine ⟨hfin _ _ _ hI, fun i hi => wpOp_mono (fun a' w' h => ?_) (hstep listed a w i hI hi)⟩
    obtain ⟨h1, o, h2, _⟩ := mem_ready.1 hi
    have := unl_set (n := ops.size) (Array.getElem?_eq_some_iff.1 h2).1 h1
    exact wpAny_inv I hstep hfin fuel _ a' w' (by omega) h

theorem getD_put {a : Act} {d k : Nat} {v : Value} : (a.put (some d) v).tmps.getD k undef = if d = k ∧ d < a.tmps.size then v else a.tmps.getD k undef := by
  simp only [Act.put, Array.getD_eq_getD_getElem?]
  by_cases h : d = k
  · subst h
    by_cases h2 : d < a.tmps.size
    · simp [h2]
    · simp [h2]
  · rw [Array.getElem?_setIfInBounds_ne h, if_neg (fun e => h e.1)]

theorem wp_region_grow {id : Nat} {a0 : Act} {W : World} (hm : P.follows .mixedOrders = true) (Val : Nat → Value → World → Prop)
    (stable : ∀ j v w w', Val j v w → Below w.heap.size w w' → Val j v w') (slot : Nat → Nat)
    (hslot : ∀ j o, ops[j]? = some o → o.dst = some (slot j)) (hinj : ∀ i j, i < ops.size → j < ops.size → slot i = slot j → i = j)
    (hsz : ∀ j, j < ops.size → slot j < a0.tmps.size) (hback : ∀ i o, ops[i]? = some o → ∀ e ∈ o.after, Region.binds .any e = true → e.on < i)
    (step : ∀ i o a w, ops[i]? = some o → Below W.heap.size W w → (∀ k, (∀ j, j < ops.size → slot j ≠ k) → a.tmps.getD k undef = a0.tmps.getD k undef) →
      (∀ e ∈ o.after, Region.binds .any e = true → Val e.on (a.tmps.getD (slot e.on) undef) w) →
      ∀ K : Act → World → Prop, (∀ v w', Below w.heap.size w w' → Val i v w' → K (a.put o.dst v) w') → if Region.wanted o (yielded ops a.tmps) = true then Oper.wp P o a w K Q else K (a.put o.dst undef) w)
    (fin : ∀ a w, Below W.heap.size W w → a.defers = a0.defers → (∀ k, (∀ j, j < ops.size → slot j ≠ k) → a.tmps.getD k undef = a0.tmps.getD k undef) → (∀ j, j < ops.size → Val j (a.tmps.getD (slot j) undef) w) → Q .normal a w) :
    (Code.region id ops true).wp P Q a0 W := by
  refine wp_region_any hm ?_
  refine wpAny_inv (fun listed a w => listed.size = ops.size ∧ Below W.heap.size W w ∧ a.defers = a0.defers ∧ a.tmps.size = a0.tmps.size ∧ (∀ k, (∀ j, j < ops.size → slot j ≠ k) → a.tmps.getD k undef = a0.tmps.getD k undef) ∧ ∀ j, j < ops.size → listed.getD j false = true → Val j (a.tmps.getD (slot j) undef) w) ?_ ?_ _ _ _ _ ?_ ?_
  · rintro listed a w i ⟨hl, hB, hd, hs, hk, hv⟩ hi
    obtain ⟨h1, o, h2, h3⟩ := mem_ready.1 hi
    have hio := (Array.getElem?_eq_some_iff.1 h2).1
    refine wpOp_step h2 fun K hK => ?_
    refine step i o a w h2 hB hk (fun e he hb => ?_) K fun v w' hb hv' => hK _ _ ⟨by simp [hl], hB.trans (hb.mono hB.size), ?_, ?_, fun k hk' => ?_, fun j hj hlj => ?_⟩
    · have h4 := h3 e he hb
      have h5 : e.on < ops.size := by
        by_cases h6 : e.on < listed.size
        · omega
        · simp [Array.getElem?_eq_none (Nat.not_lt.1 h6)] at h4
      exact hv e.on h5 h4
    · rw [hslot i o h2]; exact hd
    · rw [hslot i o h2]; simp [Act.put, hs]
    · rw [hslot i o h2, getD_put, if_neg (fun e => hk' i hio e.1)]
      exact hk k hk'
    · rw [hslot i o h2, getD_put]
      by_cases e : j = i
      · subst e
        rw [if_pos ⟨rfl, by rw [hs]; exact hsz j hj⟩]
        exact hv'
      · rw [if_neg (fun e' => e (hinj j i hj hio e'.1.symm))]
        refine stable _ _ _ _ (hv j hj ?_) hb
        simp only [Array.getD_eq_getD_getElem?] at hlj ⊢
        rw [Array.getElem?_setIfInBounds_ne (Ne.symm e)] at hlj
        exact hlj
  · rintro listed a w ⟨hl, hB, hd, hs, hk, hv⟩ hr
    refine fin a w hB hd hk fun j hj => hv j hj ?_
    have all : ∀ m j, j < m → j < ops.size → listed.getD j false = true := by
      intro m
      induction m with
      | zero => intro j h; omega
      | succ m ih =>
        intro j hjm hjo
        cases hl2 : listed.getD j false with
        | true => rfl
        | false =>
          exfalso
          have hjl : j < listed.size := by omega
          have h1 : listed.getD j true = false := by
            simp [hjl] at hl2 ⊢; exact hl2
          have : j ∈ Region.ready .any ops listed := mem_ready.2 ⟨h1, ops[j], Array.getElem?_eq_getElem hjo, fun e he hb => ih e.on (by have := hback j _ (Array.getElem?_eq_getElem hjo) e he hb; omega) (by have := hback j _ (Array.getElem?_eq_getElem hjo) e he hb; omega)⟩
          rw [hr] at this
          cases this
    exact all (j + 1) j (Nat.lt_succ_self j) hj
  · unfold unl
    have := List.length_filter_le (fun i => !(Array.replicate ops.size false).getD i true) (List.range ops.size)
    simpa using this
  · refine ⟨by simp, (Below.refl _ _).drew, rfl, rfl, fun _ _ => rfl, fun j hj h => ?_⟩
    simp [hj] at h
end
end Go.Proofs.Ythphoiadhddggaa
