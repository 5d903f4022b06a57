/-
  Generators in plain Lean: trees, what is given next by a tape, how a text is read.
-/
import Derived.Test.YthblokfiojccmaaGreatDoorRows
namespace Go.Proofs.YthblokfiojccmaaGreatDoor.Gn

/-- A tape: its numbers, and how many were asked for. -/
structure Tp where
  l : List Int
  u : Nat

def Tp.cur (t : Tp) : Int := if h : t.u < t.l.length then t.l[t.u] else 0

/-- The next number below n, as a number without a sign. -/
def Tp.val (t : Tp) (n : Int) : Int := (t.cur % 18446744073709551616) % n
def Tp.below (t : Tp) (n : Int) : Int := if n ≤ 0 then 0 else t.val n
def Tp.on (t : Tp) (n : Int) : Tp := if n ≤ 0 then t else { t with u := t.u + 1 }


theorem Tp.below_lt {t : Tp} {n : Int} (h : 0 < n) : 0 ≤ t.below n ∧ t.below n < n := by
  unfold Tp.below Tp.val
  rw [if_neg (by omega)]
  exact ⟨Int.emod_nonneg _ (by omega), Int.emod_lt_of_pos _ h⟩

structure Cl where
  wr : Bool
  key : Int
  v : Int

inductive Gt where
  | rd (k : Int)
  | wr (k lo hi : Int)
  | lim (g : Gt) (left : Nat)
  | mix (l : List Gt)
  | thn (l : List Gt)

instance : Inhabited Gt := ⟨.rd 0⟩

/-- What a part gives, what it is then, and the tape. -/
structure Gv where
  c : Option Cl
  g : Gt
  t : Tp

def mixF (nx : Gt → Tp → Gv) : Nat → List Gt → Tp → Gv
  | 0, l, t => ⟨none, .mix l, t⟩
  | k + 1, l, t =>
    let i := (t.below l.length).toNat
    let r := nx (l.getD i (.rd 0)) (t.on l.length)
    match r.c with
    | some c => ⟨some c, .mix (l.set i r.g), r.t⟩
    | none => mixF nx k (l.eraseIdx i) r.t

def thnF (nx : Gt → Tp → Gv) : List Gt → Tp → Gv
  | [], t => ⟨none, .thn [], t⟩
  | g :: l, t =>
    let r := nx g t
    match r.c with
    | some c => ⟨some c, .thn (r.g :: l), r.t⟩
    | none => thnF nx l r.t

def nextF : Nat → Gt → Tp → Gv
  | 0, g, t => ⟨none, g, t⟩
  | _ + 1, .rd k, t => ⟨some ⟨false, k, 0⟩, .rd k, t⟩
  | _ + 1, .wr k lo hi, t => ⟨some ⟨true, k, lo + t.below (hi - lo + 1)⟩, .wr k lo hi, t.on (hi - lo + 1)⟩
  | n + 1, .lim g left, t => if left = 0 then ⟨none, .lim g left, t⟩ else
      let r := nextF n g t
      ⟨r.c, .lim r.g (left - 1), r.t⟩
  | n + 1, .mix l, t => mixF (nextF n) l.length l t
  | n + 1, .thn l, t => thnF (nextF n) l t

/-- At most so many calls. -/
structure Tk where
  l : List Cl
  g : Gt
  t : Tp

def takeF (n : Nat) : Nat → Gt → Tp → Tk
  | 0, g, t => ⟨[], g, t⟩
  | m + 1, g, t =>
    let r := nextF n g t
    match r.c with
    | none => ⟨[], r.g, r.t⟩
    | some c => let k := takeF n m r.g r.t; ⟨c :: k.l, k.g, k.t⟩

theorem takeF_none {n m : Nat} {g : Gt} {t : Tp} (h : (nextF n g t).c = none) : takeF n (m + 1) g t = ⟨[], (nextF n g t).g, (nextF n g t).t⟩ := by
  rw [takeF]; simp only; rw [h]

theorem takeF_some {n m : Nat} {g : Gt} {t : Tp} {c : Cl} (h : (nextF n g t).c = some c) : takeF n (m + 1) g t = ⟨c :: (takeF n m (nextF n g t).g (nextF n g t).t).l, (takeF n m (nextF n g t).g (nextF n g t).t).g, (takeF n m (nextF n g t).g (nextF n g t).t).t⟩ := by
  rw [takeF]; simp only; rw [h]






end Go.Proofs.YthblokfiojccmaaGreatDoor.Gn
