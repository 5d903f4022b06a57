/-
  Generators in plain Lean: trees, what is given next by a tape, how a text is read.
-/
import Derived.Test.YtfpphckhjbgbhaaDoorRows
namespace Go.Proofs.YtfpphckhjbgbhaaDoor.Gn

/-- A tape: its numbers, and how many were asked for. -/
structure Tp where
  l : List Int
  u : Nat

def Tp.cur (t : Tp) : Int := if h : t.u < t.l.length then t.l[t.u] else 0

/-- The next number below n, as a number without a sign. -/
def Tp.val (t : Tp) (n : Int) : Int := (t.cur % 18446744073709551616) % n
def Tp.below (t : Tp) (n : Int) : Int := if n ≤ 0 then 0 else t.val n
def Tp.on (t : Tp) (n : Int) : Tp := if n ≤ 0 then t else { t with u := t.u + 1 }

theorem Tp.on_l (t : Tp) (n : Int) : (t.on n).l = t.l := by unfold Tp.on; split <;> rfl

theorem Tp.below_lt {t : Tp} {n : Int} (h : 0 < n) : 0 ≤ t.below n ∧ t.below n < n := by
  unfold Tp.below Tp.val
  rw [if_neg (by omega)]
  exact ⟨Int.emod_nonneg _ (by omega), Int.emod_lt_of_pos _ h⟩

structure Cl where
  wr : Bool
  key : Int
  v : Int

inductive Gt where
  | rd (k : Int)
  | wr (k lo hi : Int)
  | lim (g : Gt) (left : Nat)
  | mix (l : List Gt)
  | thn (l : List Gt)

instance : Inhabited Gt := ⟨.rd 0⟩

/-- What a part gives, what it is then, and the tape. -/
structure Gv where
  c : Option Cl
  g : Gt
  t : Tp

def mixF (nx : Gt → Tp → Gv) : Nat → List Gt → Tp → Gv
  | 0, l, t => ⟨none, .mix l, t⟩
  | k + 1, l, t =>
    let i := (t.below l.length).toNat
    let r := nx (l.getD i (.rd 0)) (t.on l.length)
    match r.c with
    | some c => ⟨some c, .mix (l.set i r.g), r.t⟩
    | none => mixF nx k (l.eraseIdx i) r.t

def thnF (nx : Gt → Tp → Gv) : List Gt → Tp → Gv
  | [], t => ⟨none, .thn [], t⟩
  | g :: l, t =>
    let r := nx g t
    match r.c with
    | some c => ⟨some c, .thn (r.g :: l), r.t⟩
    | none => thnF nx l r.t

def nextF : Nat → Gt → Tp → Gv
  | 0, g, t => ⟨none, g, t⟩
  | _ + 1, .rd k, t => ⟨some ⟨false, k, 0⟩, .rd k, t⟩
  | _ + 1, .wr k lo hi, t => ⟨some ⟨true, k, lo + t.below (hi - lo + 1)⟩, .wr k lo hi, t.on (hi - lo + 1)⟩
  | n + 1, .lim g left, t => if left = 0 then ⟨none, .lim g left, t⟩ else
      let r := nextF n g t
      ⟨r.c, .lim r.g (left - 1), r.t⟩
  | n + 1, .mix l, t => mixF (nextF n) l.length l t
  | n + 1, .thn l, t => thnF (nextF n) l t

/-- At most so many calls. -/
structure Tk where
  l : List Cl
  g : Gt
  t : Tp

def takeF (n : Nat) : Nat → Gt → Tp → Tk
  | 0, g, t => ⟨[], g, t⟩
  | m + 1, g, t =>
    let r := nextF n g t
    match r.c with
    | none => ⟨[], r.g, r.t⟩
    | some c => let k := takeF n m r.g r.t; ⟨c :: k.l, k.g, k.t⟩

theorem takeF_none {n m : Nat} {g : Gt} {t : Tp} (h : (nextF n g t).c = none) : takeF n (m + 1) g t = ⟨[], (nextF n g t).g, (nextF n g t).t⟩ := by
  rw [takeF]; simp only; rw [h]

theorem takeF_some {n m : Nat} {g : Gt} {t : Tp} {c : Cl} (h : (nextF n g t).c = some c) : takeF n (m + 1) g t = ⟨c :: (takeF n m (nextF n g t).g (nextF n g t).t).l, (takeF n m (nextF n g t).g (nextF n g t).t).g, (takeF n m (nextF n g t).g (nextF n g t).t).t⟩ := by
  rw [takeF]; simp only; rw [h]

theorem takeF_len (n : Nat) : ∀ (m : Nat) (g : Gt) (t : Tp), (takeF n m g t).l.length ≤ m
  | 0, _, _ => by simp [takeF]
  | m + 1, g, t => by
    cases h : (nextF n g t).c with
    | none => rw [takeF_none h]; simp
    | some c => rw [takeF_some h]; have := takeF_len n m (nextF n g t).g (nextF n g t).t; simp; omega

/-- Taken in two parts: the same. -/
theorem takeF_two (n : Nat) : ∀ (a b : Nat) (g : Gt) (t : Tp), (takeF n (a + b) g t).l = (takeF n a g t).l ++ (if (takeF n a g t).l.length < a then [] else (takeF n b (takeF n a g t).g (takeF n a g t).t).l)
  | 0, b, g, t => by simp [takeF]
  | a + 1, b, g, t => by
    rw [show a + 1 + b = (a + b) + 1 by omega]
    cases h : (nextF n g t).c with
    | none => rw [takeF_none h, takeF_none h]; simp
    | some c =>
      rw [takeF_some h, takeF_some h]
      simp only [List.cons_append, List.length_cons, Nat.add_lt_add_iff_right]
      rw [takeF_two n a b]

/-- A limit around: its first ones. -/
theorem takeF_lim (n : Nat) : ∀ (m k : Nat) (g : Gt) (t : Tp), (takeF (n + 1) m (.lim g k) t).l = (takeF n (min m k) g t).l
  | 0, k, g, t => by simp [takeF]
  | m + 1, 0, g, t => by
    rw [takeF_none (by simp [nextF])]; simp [takeF]
  | m + 1, k + 1, g, t => by
    rw [show min (m + 1) (k + 1) = min m k + 1 by omega]
    have e : nextF (n + 1) (.lim g (k + 1)) t = ⟨(nextF n g t).c, .lim (nextF n g t).g k, (nextF n g t).t⟩ := by simp [nextF]
    cases h : (nextF n g t).c with
    | none => rw [takeF_none h, takeF_none (by rw [e]; exact h)]
    | some c =>
      rw [takeF_some h, takeF_some (c := c) (by rw [e]; exact h), e]
      simp only
      rw [takeF_lim n m k]

theorem takeF_take (n : Nat) (m k : Nat) (g : Gt) (t : Tp) (h : k ≤ m) : (takeF n k g t).l = (takeF n m g t).l.take k := by
  obtain ⟨d, rfl⟩ : ∃ d, m = k + d := ⟨m - k, by omega⟩
  rw [takeF_two]
  have hl := takeF_len n k g t
  split
  · rw [List.append_nil, List.take_of_length_le (by omega)]
  · rw [List.take_append_of_le_length (by omega), List.take_of_length_le (by omega)]

/-- One alone. -/
theorem takeF_thn (n : Nat) : ∀ (m : Nat) (g : Gt) (t : Tp), (takeF (n + 1) m (.thn [g]) t).l = (takeF n m g t).l
  | 0, _, _ => rfl
  | m + 1, g, t => by
    cases h : (nextF n g t).c with
    | none => 
      have e : nextF (n + 1) (.thn [g]) t = ⟨none, .thn [], (nextF n g t).t⟩ := by simp only [nextF, thnF]; rw [h]
      rw [takeF_none h, takeF_none (by rw [e])]
    | some c =>
      have e : nextF (n + 1) (.thn [g]) t = ⟨some c, .thn [(nextF n g t).g], (nextF n g t).t⟩ := by simp only [nextF, thnF]; rw [h]
      rw [takeF_some h, takeF_some (c := c) (by rw [e]), e]
      simp only
      rw [takeF_thn n m]

end Go.Proofs.YtfpphckhjbgbhaaDoor.Gn
