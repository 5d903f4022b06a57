/-
  Chapter 18, plain: CRC-32, frames, what is recovered. Nothing of the program is named here.
-/
import Derived.Test.YtdncnljcihblbaaDoorRcP
namespace Go.Proofs.YtdncnljcihblbaaDoor

/-- One bit of CRC-32. -/
def bitC (c : Nat) : Nat := c / 2 ^^^ c % 2 * 3988292384
def bitsC : Nat → Nat → Nat
  | 0, c => c
  | n + 1, c => bitsC n (bitC c)
def byteC (c x : Nat) : Nat := bitsC 8 (c ^^^ x)
def restC (l : List Nat) : Nat := l.foldl byteC 4294967295
def crcL (l : List Nat) : Nat := 4294967295 - restC l

theorem bitC_lt {c : Nat} (h : c < 4294967296) : bitC c < 4294967296 := by
  unfold bitC
  refine Nat.xor_lt_two_pow (n := 32) (by omega) ?_
  have : c % 2 = 0 ∨ c % 2 = 1 := by omega
  rcases this with h | h <;> rw [h] <;> decide
theorem bitC_inj {c d : Nat} (hc : c < 4294967296) (hd : d < 4294967296) (h : bitC c = bitC d) : c = d := by
  unfold bitC at h
  have c2 : c % 2 = 0 ∨ c % 2 = 1 := by omega
  have d2 : d % 2 = 0 ∨ d % 2 = 1 := by omega
  have key : ∀ x y : Nat, x < 2147483648 → y < 2147483648 → x ^^^ 3988292384 = y → False := by
    intro x y hx hy e
    have : 3988292384 = x ^^^ y := by rw [← e, ← Nat.xor_assoc, Nat.xor_self, Nat.zero_xor]
    have h3 : x ^^^ y < 2 ^ 31 := Nat.xor_lt_two_pow (by omega) (by omega)
    omega
  rcases c2 with c2 | c2 <;> rcases d2 with d2 | d2 <;> rw [c2, d2] at h <;> simp only [Nat.zero_mul, Nat.one_mul, Nat.xor_zero] at h
  · omega
  · exact (key _ _ (by omega) (by omega) h.symm).elim
  · exact (key _ _ (by omega) (by omega) h).elim
  · have := congrArg (fun z => z ^^^ 3988292384) h
    simp only [Nat.xor_assoc, Nat.xor_self, Nat.xor_zero] at this
    omega
theorem bitsC_lt : ∀ (n : Nat) {c : Nat}, c < 4294967296 → bitsC n c < 4294967296
  | 0, _, h => h
  | n + 1, _, h => bitsC_lt n (bitC_lt h)
theorem bitsC_inj : ∀ (n : Nat) {c d : Nat}, c < 4294967296 → d < 4294967296 → bitsC n c = bitsC n d → c = d
  | 0, _, _, _, _, h => h
  | n + 1, _, _, hc, hd, h => bitC_inj hc hd (bitsC_inj n (bitC_lt hc) (bitC_lt hd) h)
theorem bitsC_snoc : ∀ (n c : Nat), bitsC (n + 1) c = bitC (bitsC n c)
  | 0, _ => rfl
  | n + 1, c => bitsC_snoc n (bitC c)
theorem xor_lt32 {c x : Nat} (hc : c < 4294967296) (hx : x < 256) : c ^^^ x < 4294967296 := Nat.xor_lt_two_pow (n := 32) hc (by omega)
theorem byteC_lt {c x : Nat} (hc : c < 4294967296) (hx : x < 256) : byteC c x < 4294967296 := bitsC_lt 8 (xor_lt32 hc hx)
theorem byteC_inj {c d x : Nat} (hc : c < 4294967296) (hd : d < 4294967296) (hx : x < 256) (h : byteC c x = byteC d x) : c = d := by
  have h1 := bitsC_inj 8 (xor_lt32 hc hx) (xor_lt32 hd hx) h
  have := congrArg (fun z => z ^^^ x) h1
  simpa only [Nat.xor_assoc, Nat.xor_self, Nat.xor_zero] using this
theorem byteC_inj2 {c x y : Nat} (hc : c < 4294967296) (hx : x < 256) (hy : y < 256) (h : byteC c x = byteC c y) : x = y := by
  have h1 := bitsC_inj 8 (xor_lt32 hc hx) (xor_lt32 hc hy) h
  have := congrArg (fun z => c ^^^ z) h1
  simpa only [← Nat.xor_assoc, Nat.xor_self, Nat.zero_xor] using this

def Byt (l : List Nat) : Prop := ∀ x ∈ l, x < 256
theorem Byt.append {l m : List Nat} (h : Byt l) (h2 : Byt m) : Byt (l ++ m) := fun x hx => (List.mem_append.1 hx).elim (h x) (h2 x)
theorem Byt.left {l m : List Nat} (h : Byt (l ++ m)) : Byt l := fun x hx => h x (List.mem_append.2 (Or.inl hx))
theorem Byt.right {l m : List Nat} (h : Byt (l ++ m)) : Byt m := fun x hx => h x (List.mem_append.2 (Or.inr hx))
theorem Byt.take {l : List Nat} (h : Byt l) (n : Nat) : Byt (l.take n) := fun x hx => h x (List.mem_of_mem_take hx)
theorem Byt.drop {l : List Nat} (h : Byt l) (n : Nat) : Byt (l.drop n) := fun x hx => h x (List.mem_of_mem_drop hx)
theorem Byt.at {l : List Nat} (h : Byt l) {i : Nat} (hi : i < l.length) : l[i] < 256 := h _ (List.getElem_mem hi)

theorem fold_lt : ∀ (l : List Nat) {c : Nat}, c < 4294967296 → Byt l → l.foldl byteC c < 4294967296
  | [], _, h, _ => h
  | x :: l, _, h, hb => fold_lt l (byteC_lt h (hb x (by simp))) (fun y hy => hb y (by simp [hy]))
theorem fold_inj : ∀ (l : List Nat) {c d : Nat}, c < 4294967296 → d < 4294967296 → Byt l → l.foldl byteC c = l.foldl byteC d → c = d
  | [], _, _, _, _, _, h => h
  | x :: l, _, _, hc, hd, hb, h => byteC_inj hc hd (hb x (by simp)) (fold_inj l (byteC_lt hc (hb x (by simp))) (byteC_lt hd (hb x (by simp))) (fun y hy => hb y (by simp [hy])) h)
theorem restC_lt {l : List Nat} (h : Byt l) : restC l < 4294967296 := fold_lt l (by decide) h
theorem crcL_lt {l : List Nat} : crcL l < 4294967296 := by unfold crcL; omega
theorem restC_snoc (l : List Nat) (x : Nat) : restC (l ++ [x]) = byteC (restC l) x := by unfold restC; rw [List.foldl_append]; rfl

/-- One byte that turned is seen. -/
theorem crc_turned {l : List Nat} (h : Byt l) {i v : Nat} (hi : i < l.length) (hv : v < 256) (hn : l[i] ≠ v) : crcL (l.set i v) ≠ crcL l := by
  intro e
  have hl : l = l.take i ++ l[i] :: l.drop (i + 1) := by simp
  have hs : l.set i v = l.take i ++ v :: l.drop (i + 1) := by
    rw [List.set_eq_take_append_cons_drop, if_pos hi]
  have hA := restC_lt (h.take i)
  have hD := h.drop (i + 1)
  have h1 : restC l < 4294967296 := restC_lt h
  have h2 : restC (l.set i v) < 4294967296 := restC_lt (fun x hx => by
    rcases List.mem_or_eq_of_mem_set hx with hx | rfl
    · exact h x hx
    · exact hv)
  have e2 : restC (l.set i v) = restC l := by unfold crcL at e; omega
  rw [hs] at e2
  have e3 : restC (l.take i ++ v :: l.drop (i + 1)) = restC (l.take i ++ l[i] :: l.drop (i + 1)) := by rw [e2]; exact congrArg restC hl
  unfold restC at e3 hA
  rw [List.foldl_append, List.foldl_append, List.foldl_cons, List.foldl_cons] at e3
  exact hn (byteC_inj2 hA (h.at hi) hv (fold_inj _ (byteC_lt hA hv) (byteC_lt hA (h.at hi)) hD e3).symm)

/-- A payload's frame. -/
def frameL (p : List Nat) : List Nat := [p.length / 256 % 256, p.length % 256, crcL p / 16777216, crcL p / 65536 % 256, crcL p / 256 % 256, crcL p % 256] ++ p

theorem frame_len (p : List Nat) : (frameL p).length = 6 + p.length := by simp [frameL]; omega
theorem frame_byte {p : List Nat} (h : Byt p) : Byt (frameL p) := by
  intro x hx
  have hc := crcL_lt (l := p)
  simp only [frameL, List.mem_append, List.mem_cons, List.not_mem_nil, or_false] at hx
  rcases hx with (rfl | rfl | rfl | rfl | rfl | rfl) | hx
  · omega
  · omega
  · omega
  · omega
  · omega
  · omega
  · exact h x hx

/-- The event of the frame that bytes begin with, and how many bytes that frame is. -/
def firstL (b : List Nat) : Option (Ev × Nat) :=
  if b.length < 6 then none
  else if b.length < 6 + b.getD 0 0 * 256 + b.getD 1 0 then none
  else match decL ((b.take (6 + b.getD 0 0 * 256 + b.getD 1 0)).drop 6) with
    | none => none
    | some e => if frameL ((b.take (6 + b.getD 0 0 * 256 + b.getD 1 0)).drop 6) = b.take (6 + b.getD 0 0 * 256 + b.getD 1 0) then some (e, 6 + b.getD 0 0 * 256 + b.getD 1 0) else none

theorem first_spec {b : List Nat} {e : Ev} {n : Nat} (h : firstL b = some (e, n)) : fltE e = 0 ∧ n = 6 + (encL e).length ∧ n ≤ b.length ∧ b.take n = frameL (encL e) := by
  unfold firstL at h
  split at h
  · cases h
  · split at h
    · cases h
    · rename_i h1 h2
      generalize hm : 6 + b.getD 0 0 * 256 + b.getD 1 0 = m at *
      split at h
      · cases h
      · rename_i e' he
        split at h
        · rename_i hf
          cases h
          obtain ⟨g1, g2⟩ := (dec_iff _ _).1 he
          rw [← g2] at hf
          refine ⟨g1, ?_, by omega, hf.symm⟩
          have := congrArg List.length g2
          simp at this; omega
        · cases h

theorem first_frame {e : Ev} (h : fltE e = 0) (t : List Nat) : firstL (frameL (encL e) ++ t) = some (e, 6 + (encL e).length) := by
  have hl := encL_len (okE_of h)
  have g0 : (frameL (encL e) ++ t).getD 0 0 = (encL e).length / 256 % 256 := rfl
  have g1 : (frameL (encL e) ++ t).getD 1 0 = (encL e).length % 256 := rfl
  have hn : 6 + (frameL (encL e) ++ t).getD 0 0 * 256 + (frameL (encL e) ++ t).getD 1 0 = 6 + (encL e).length := by rw [g0, g1]; omega
  have htk : (frameL (encL e) ++ t).take (6 + (encL e).length) = frameL (encL e) := by rw [← frame_len]; simp
  unfold firstL
  rw [hn, if_neg (by rw [List.length_append, frame_len]; omega), if_neg (by rw [List.length_append, frame_len]; omega), htk, show (frameL (encL e)).drop 6 = encL e from rfl, dec_enc h]
  simp

/-- What is recovered, by no more than so many rounds. -/
def recF : Nat → List Nat → List Ev × Nat
  | 0, _ => ([], 0)
  | f + 1, b => match firstL b with
    | none => ([], 0)
    | some (e, n) => (e :: (recF f (b.drop n)).1, n + (recF f (b.drop n)).2)
def recL (b : List Nat) : List Ev × Nat := recF (b.length + 1) b

theorem recF_more : ∀ (f g : Nat) (b : List Nat), b.length < f → b.length < g → recF f b = recF g b := by
  intro f
  induction f with
  | zero => intro g b h; omega
  | succ f ih =>
    intro g b h h2
    cases g with
    | zero => omega
    | succ g =>
      unfold recF
      split
      · rfl
      · rename_i e n he
        obtain ⟨_, h3, h4, _⟩ := first_spec he
        rw [ih g (b.drop n) (by simp; omega) (by simp; omega)]
theorem rec_none {b : List Nat} (h : firstL b = none) : recL b = ([], 0) := by unfold recL recF; rw [h]
theorem rec_some {b : List Nat} {e : Ev} {n : Nat} (h : firstL b = some (e, n)) : recL b = (e :: (recL (b.drop n)).1, n + (recL (b.drop n)).2) := by
  obtain ⟨_, h3, h4, _⟩ := first_spec h
  unfold recL
  rw [recF, h]
  show (e :: (recF b.length (b.drop n)).1, n + (recF b.length (b.drop n)).2) = _
  rw [recF_more b.length ((b.drop n).length + 1) (b.drop n) (by simp; omega) (by simp)]

/-- The frames of events, one behind the other. -/
def framesL (l : List Ev) : List Nat := l.flatMap fun e => frameL (encL e)
def OkL (l : List Ev) : Prop := ∀ e ∈ l, fltE e = 0

theorem frames_cons (e : Ev) (l : List Ev) : framesL (e :: l) = frameL (encL e) ++ framesL l := by simp [framesL]
theorem frames_snoc (l : List Ev) (e : Ev) : framesL (l ++ [e]) = framesL l ++ frameL (encL e) := by simp [framesL]
theorem frames_append (l m : List Ev) : framesL (l ++ m) = framesL l ++ framesL m := by simp [framesL]
theorem frames_byte {l : List Ev} (h : OkL l) : Byt (framesL l) := by
  intro x hx
  obtain ⟨e, he, hx⟩ := List.mem_flatMap.1 hx
  exact frame_byte (encL_byte (okE_of (h e he))) x hx
theorem frames_len {l : List Ev} (h : OkL l) : (framesL l).length ≤ 19 * l.length := by
  induction l with
  | nil => simp [framesL]
  | cons e l ih =>
    rw [frames_cons, List.length_append, frame_len]
    have := encL_len (okE_of (h e (by simp)))
    have := ih (fun x hx => h x (by simp [hx]))
    simp; omega

theorem rec_frames {l : List Ev} (h : OkL l) (t : List Nat) : recL (framesL l ++ t) = (l ++ (recL t).1, (framesL l).length + (recL t).2) := by
  induction l with
  | nil => simp [framesL]
  | cons e l ih =>
    rw [frames_cons, List.append_assoc, rec_some (first_frame (h e (by simp)) _)]
    have : (frameL (encL e) ++ (framesL l ++ t)).drop (6 + (encL e).length) = framesL l ++ t := by rw [← frame_len]; simp
    rw [this, ih (fun x hx => h x (by simp [hx]))]
    simp [frame_len]; omega

theorem rec_spec : ∀ (n : Nat) (b : List Nat), b.length ≤ n → OkL (recL b).1 ∧ (recL b).2 ≤ b.length ∧ b.take (recL b).2 = framesL (recL b).1 := by
  intro n
  induction n with
  | zero =>
    intro b h
    have : b = [] := List.eq_nil_of_length_eq_zero (by omega)
    subst this
    exact ⟨fun e he => (List.not_mem_nil he).elim, Nat.le_refl _, rfl⟩
  | succ n ih =>
    intro b h
    cases hf : firstL b with
    | none => rw [rec_none hf]; exact ⟨fun e he => (List.not_mem_nil he).elim, Nat.zero_le _, rfl⟩
    | some q =>
      obtain ⟨e, m⟩ := q
      obtain ⟨h1, h2, h3, h4⟩ := first_spec hf
      rw [rec_some hf]
      obtain ⟨i1, i2, i3⟩ := ih (b.drop m) (by simp; omega)
      refine ⟨?_, ?_, ?_⟩
      · intro x hx
        rcases List.mem_cons.1 hx with rfl | hx
        · exact h1
        · exact i1 x hx
      · simp at i2; show m + _ ≤ _; omega
      · rw [frames_cons, ← i3, ← h4, List.take_add]

/-- Recovered once more it is the same. -/
theorem rec_again (b : List Nat) : recL (b.take (recL b).2) = recL b := by
  obtain ⟨h1, h2, h3⟩ := rec_spec b.length b (Nat.le_refl _)
  have h4 := rec_frames h1 []
  rw [List.append_nil, ← h3] at h4
  rw [h4, rec_none (b := []) rfl]
  have : (b.take (recL b).2).length = (recL b).2 := by simp; omega
  simp [this]

/-- What is cut short at a place inside a frame: nothing of that frame is recovered. -/
theorem first_short {e : Ev} (h : fltE e = 0) {m : Nat} (t : List Nat) (hm : m < 6 + (encL e).length) : firstL ((frameL (encL e) ++ t).take m) = none := by
  have hl := encL_len (okE_of h)
  have hlen : ((frameL (encL e) ++ t).take m).length = m := by rw [List.length_take, List.length_append, frame_len]; omega
  unfold firstL
  rw [hlen]
  by_cases h6 : m < 6
  · rw [if_pos h6]
  · rw [if_neg h6]
    have g0 : ((frameL (encL e) ++ t).take m).getD 0 0 = (encL e).length / 256 % 256 := by
      obtain ⟨m', rfl⟩ : ∃ m', m = m' + 6 := ⟨m - 6, by omega⟩
      rfl
    have g1 : ((frameL (encL e) ++ t).take m).getD 1 0 = (encL e).length % 256 := by
      obtain ⟨m', rfl⟩ : ∃ m', m = m' + 6 := ⟨m - 6, by omega⟩
      rfl
    rw [g0, g1, if_pos (by omega)]

/-- A crash loses an end alone. -/
theorem rec_cut : ∀ (l : List Ev) (m : Nat), OkL l → ∃ j, j ≤ l.length ∧ recL ((framesL l).take m) = (l.take j, (framesL (l.take j)).length) ∧ ∀ i, i ≤ l.length → (framesL (l.take i)).length ≤ m → i ≤ j := by
  intro l
  induction l with
  | nil =>
    intro m _
    exact ⟨0, Nat.le_refl _, by simp [framesL, rec_none (b := []) rfl], fun i hi _ => hi⟩
  | cons e l ih =>
    intro m h
    by_cases hm : m < 6 + (encL e).length
    · refine ⟨0, Nat.zero_le _, ?_, ?_⟩
      · rw [frames_cons, rec_none (first_short (h e (by simp)) _ hm)]; simp [framesL]
      · intro i hi hlen
        cases i with
        | zero => exact Nat.le_refl _
        | succ i =>
          rw [List.take_succ_cons, frames_cons, List.length_append, frame_len] at hlen
          omega
    · obtain ⟨j, j1, j2, j3⟩ := ih (m - (6 + (encL e).length)) (fun x hx => h x (by simp [hx]))
      refine ⟨j + 1, by simp; omega, ?_, ?_⟩
      · have h5 : (framesL (e :: l)).take m = frameL (encL e) ++ (framesL l).take (m - (6 + (encL e).length)) := by
          rw [frames_cons, List.take_append, frame_len, List.take_of_length_le (by rw [frame_len]; omega)]
        rw [h5, rec_some (first_frame (h e (by simp)) _)]
        have : (frameL (encL e) ++ (framesL l).take (m - (6 + (encL e).length))).drop (6 + (encL e).length) = (framesL l).take (m - (6 + (encL e).length)) := by rw [← frame_len]; simp
        rw [this, j2, List.take_succ_cons, frames_cons, List.length_append, frame_len]
      · intro i hi hlen
        cases i with
        | zero => omega
        | succ i =>
          rw [List.take_succ_cons, frames_cons, List.length_append, frame_len] at hlen
          have := j3 i (by simp at hi; omega) (by omega)
          omega

/-- One byte that turned, in a frame's check or its event: that frame is none. -/
theorem first_turned {e : Ev} (h : fltE e = 0) (t : List Nat) {i v : Nat} (h2 : 2 ≤ i) (hi : i < 6 + (encL e).length) (hv : v < 256) (hn : (frameL (encL e)).getD i 0 ≠ v) :
    firstL ((frameL (encL e) ++ t).set i v) = none := by
  have hl := encL_len (okE_of h)
  have hB := encL_byte (okE_of h)
  have hset : (frameL (encL e) ++ t).set i v = (frameL (encL e)).set i v ++ t := by
    rw [List.set_append_left _ _ (by rw [frame_len]; exact hi)]
  have hlen : ((frameL (encL e)).set i v).length = 6 + (encL e).length := by rw [List.length_set, frame_len]
  rw [hset]
  unfold firstL
  have g0 : ((frameL (encL e)).set i v ++ t).getD 0 0 = (encL e).length / 256 % 256 := by
    obtain ⟨i', rfl⟩ : ∃ i', i = i' + 2 := ⟨i - 2, by omega⟩
    rfl
  have g1 : ((frameL (encL e)).set i v ++ t).getD 1 0 = (encL e).length % 256 := by
    obtain ⟨i', rfl⟩ : ∃ i', i = i' + 2 := ⟨i - 2, by omega⟩
    rfl
  have hn2 : 6 + ((frameL (encL e)).set i v ++ t).getD 0 0 * 256 + ((frameL (encL e)).set i v ++ t).getD 1 0 = 6 + (encL e).length := by rw [g0, g1]; omega
  rw [hn2, if_neg (by rw [List.length_append, hlen]; omega), if_neg (by rw [List.length_append, hlen]; omega)]
  have htk : ((frameL (encL e)).set i v ++ t).take (6 + (encL e).length) = (frameL (encL e)).set i v := by rw [← hlen]; simp
  rw [htk]
  split
  · rfl
  · rename_i e' he
    rw [if_neg]
    intro hf
    by_cases h6 : i < 6
    · -- the check turned
      have hd : ((frameL (encL e)).set i v).drop 6 = encL e := by
        rw [List.drop_set_of_lt h6]; rfl
      rw [hd] at hf
      have : ((frameL (encL e)).set i v).getD i 0 = v := by
        rw [List.getD_eq_getElem?_getD, List.getElem?_set_self (by rw [frame_len]; omega)]; rfl
      rw [← hf] at this
      exact hn this
    · -- the event turned
      obtain ⟨k, rfl⟩ : ∃ k, i = 6 + k := ⟨i - 6, by omega⟩
      have hk : k < (encL e).length := by omega
      have hd : ((frameL (encL e)).set (6 + k) v).drop 6 = (encL e).set k v := by
        have : frameL (encL e) = [(encL e).length / 256 % 256, (encL e).length % 256, crcL (encL e) / 16777216, crcL (encL e) / 65536 % 256, crcL (encL e) / 256 % 256, crcL (encL e) % 256] ++ encL e := rfl
        rw [this, List.set_append_right _ _ (by simp)]
        simp
      rw [hd] at hf
      have hne : (encL e)[k] ≠ v := by
        intro e1
        apply hn
        have : (frameL (encL e)).getD (6 + k) 0 = (encL e).getD k 0 := by
          rw [show 6 + k = k + 6 by omega]; rfl
        rw [this, List.getD_eq_getElem?_getD, List.getElem?_eq_getElem hk]; exact e1
      have hc := crc_turned hB hk hv hne
      have c1 := crcL_lt (l := encL e); have c2 := crcL_lt (l := (encL e).set k v)
      have q : ∀ j, j < 6 → (frameL ((encL e).set k v)).getD j 0 = (frameL (encL e)).getD j 0 := by
        intro j hj
        rw [hf, List.getD_eq_getElem?_getD, List.getElem?_set_ne (by omega), ← List.getD_eq_getElem?_getD]
      have q2 := q 2 (by omega); have q3 := q 3 (by omega); have q4 := q 4 (by omega); have q5 := q 5 (by omega)
      simp only [frameL, List.cons_append, List.getD_cons_succ, List.getD_cons_zero] at q2 q3 q4 q5
      omega

end Go.Proofs.YtdncnljcihblbaaDoor
