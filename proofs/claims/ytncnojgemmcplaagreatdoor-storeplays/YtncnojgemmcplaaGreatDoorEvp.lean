/-
  Chapter 17, the program's own way, in plain Lean.
-/
import Derived.Test.YtncnojgemmcplaaGreatDoorNpM
import Derived.Test.YtncnojgemmcplaaGreatDoorAbP
namespace Go.Proofs.YtncnojgemmcplaaGreatDoor.St

/-- An event's seven numbers. -/
structure Evp where
  p : Int
  t : Int
  k : Int
  d : Int
  a : Int
  b : Int
  r : Int
/-- A client. -/
structure Pcl where
  at_ : Int
  call : Evp
  rd : Int
  cnt : List Int
  kept : Hd
/-- The program's store. -/
structure Pst where
  n : Nat
  k : Nat
  ask : Nat
  tell : Nat
  back : Bool
  nil : Bool
  lr : Nat → Nat → Bool
  mails : List Mq
  has : Nat → Nat → Hd
  cl : Nat → Pcl
  evs : List Evp
  sts : List Smp
def updP {α : Type} (f : Nat → α) (i : Nat) (x : α) : Nat → α := fun j => if j = i then x else f j
theorem updP_same {α : Type} (f : Nat → α) (i : Nat) (x : α) : updP f i x i = x := if_pos rfl
theorem updP_ne {α : Type} (f : Nat → α) {i j : Nat} (x : α) (h : j ≠ i) : updP f i x j = f j := if_neg h
def upd2 {α : Type} (f : Nat → Nat → α) (i q : Nat) (x : α) : Nat → Nat → α := fun j s => if j = i ∧ s = q then x else f j s
def newerH (a b : Hd) : Hd := if a.s.lt b.s then b else a
def Pcl.busy (x : Pcl) : Bool := decide (x.at_ = 1) || decide (x.at_ = 2)
def busyP (P : Pst) : Nat := (List.range P.k).countP fun j => (P.cl j).busy
/-- 17.2: Free. -/
def freeP (P : Pst) (c : Int) : Int :=
  if c < 0 ∨ (P.k : Int) ≤ c then 2 else if (P.cl c.toNat).at_ ≠ 0 then 6 else if 120 < P.evs.length + 2 + busyP P then 4 else 0
def sendP (P : Pst) (m : Mq) : Pst := if P.mails.length < 500 then { P with mails := P.mails ++ [m] } else P
def msgP (n c : Nat) (x : Pcl) (j : Nat) : Mq := ⟨(n : Int) + c, j, x.call.k, x.rd, decide (x.at_ = 2), x.kept.s.t, x.kept.s.c, x.kept.v⟩
def sendsP (P : Pst) (c : Nat) (x : Pcl) (m : Nat) : Pst := (List.range m).foldl (fun P j => sendP P (msgP P.n c x j)) P
def roundX (x : Pcl) (at_ : Int) : Pcl := { x with at_ := at_, rd := x.rd + 1, cnt := [] }
def roundP (P : Pst) (c : Nat) (at_ : Int) : Pst := sendsP { P with cl := updP P.cl c (roundX (P.cl c) at_) } c (roundX (P.cl c) at_) P.n
def seeP (P : Pst) (e : Evp) (s : Smp) : Pst := { P with evs := P.evs ++ [e], sts := P.sts ++ [s] }
def callP (c key : Int) (write : Bool) (value : Int) : Evp := ⟨c, 1, key, if write then 2 else 1, value, 0, 0⟩
def beginP (P : Pst) (c : Nat) (key : Int) (write : Bool) (value : Int) : Pst :=
  roundP { P with evs := P.evs ++ [callP c key write value], sts := P.sts ++ [zeroS], cl := updP P.cl c { P.cl c with call := callP c key write value, kept := hd0 } } c 1
def giveP (P : Pst) (c : Nat) : Pst := { P with evs := P.evs ++ [{ (P.cl c).call with t := 4 }], sts := P.sts ++ [zeroS], cl := updP P.cl c { P.cl c with at_ := 3 } }
def endP (x : Pcl) : Evp := if x.call.d = 1 then { x.call with t := 2, r := x.kept.v } else { x.call with t := 2 }
def doneP (P : Pst) (c : Nat) : Pst := { P with evs := P.evs ++ [endP (P.cl c)], sts := P.sts ++ [(P.cl c).kept.s], cl := updP P.cl c { P.cl c with at_ := 0 } }
def askedX (c : Nat) (x : Pcl) : Pcl := if x.call.d = 2 then { x with kept := ⟨⟨x.kept.s.t + 1, c⟩, x.call.a⟩ } else x
def askedP (P : Pst) (c : Nat) : Pst :=
  if (P.cl c).call.d = 2 ∨ P.back = true then roundP { P with cl := updP P.cl c (askedX c (P.cl c)) } c 2 else doneP P c
def mqH (m : Mq) : Hd := ⟨⟨m.t, m.c⟩, m.v⟩
def countX (x : Pcl) (m : Mq) : Pcl := { x with cnt := x.cnt ++ [m.fr], kept := if x.at_ = 1 then newerH x.kept (mqH m) else x.kept }
def countP_ (P : Pst) (m : Mq) : Pst :=
  if (P.cl (m.tt - P.n).toNat).busy = true ∧ m.rd = (P.cl (m.tt - P.n).toNat).rd ∧ m.fr ∉ (P.cl (m.tt - P.n).toNat).cnt then
    if (P.cl (m.tt - P.n).toNat).at_ = 1 then
      if (P.cl (m.tt - P.n).toNat).cnt.length + 1 = P.ask then askedP { P with cl := updP P.cl (m.tt - P.n).toNat (countX (P.cl (m.tt - P.n).toNat) m) } (m.tt - P.n).toNat
      else { P with cl := updP P.cl (m.tt - P.n).toNat (countX (P.cl (m.tt - P.n).toNat) m) }
    else if (P.cl (m.tt - P.n).toNat).cnt.length + 1 = P.tell then doneP { P with cl := updP P.cl (m.tt - P.n).toNat (countX (P.cl (m.tt - P.n).toNat) m) } (m.tt - P.n).toNat
      else { P with cl := updP P.cl (m.tt - P.n).toNat (countX (P.cl (m.tt - P.n).toNat) m) }
  else P
def answerH (own : Hd) (m : Mq) : Hd := if m.tells = true then newerH own (mqH m) else own
def answerP (P : Pst) (m : Mq) : Pst :=
  sendP { P with has := upd2 P.has m.tt.toNat m.key.toNat (answerH (P.has m.tt.toNat m.key.toNat) m) } ⟨m.tt, m.fr, m.key, m.rd, false, (answerH (P.has m.tt.toNat m.key.toNat) m).s.t, (answerH (P.has m.tt.toNat m.key.toNat) m).s.c, (answerH (P.has m.tt.toNat m.key.toNat) m).v⟩
end Go.Proofs.YtncnojgemmcplaaGreatDoor.St
