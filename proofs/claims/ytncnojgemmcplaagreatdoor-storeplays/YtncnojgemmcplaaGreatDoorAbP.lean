/-
  Chapter 17 in plain Lean: registers by quorums; what is kept whatever is moved.
-/

namespace Go.Proofs.YtncnojgemmcplaaGreatDoor

/-- A stamp. -/
structure Smp where
  t : Int
  c : Int
def Smp.le (a b : Smp) : Prop := a.t < b.t ∨ (a.t = b.t ∧ a.c ≤ b.c)
def Smp.lt (a b : Smp) : Prop := a.t < b.t ∨ (a.t = b.t ∧ a.c < b.c)
instance (a b : Smp) : Decidable (a.le b) := by unfold Smp.le; infer_instance
instance (a b : Smp) : Decidable (a.lt b) := by unfold Smp.lt; infer_instance

/-- A value and its stamp; a letter; a mail; a client; what is seen. -/
structure Hd where
  s : Smp
  v : Int
structure Ltr where
  c : Int
  key : Int
  rd : Int
  tells : Bool
  h : Hd
structure Ml where
  fr : Int
  to : Int
  l : Ltr
structure Cl where
  busy : Bool
  gone : Bool
  write : Bool
  tells : Bool
  key : Int
  value : Int
  rd : Int
  kept : Hd
  cnt : List Int
/-- typ: 1 an Invoke, 2 an Ok, 4 an Info. -/
structure Sn where
  proc : Int
  typ : Int
  key : Int
  write : Bool
  a : Int
  res : Int
  at_ : Smp
structure Sto where
  n : Nat
  k : Nat
  ask : Nat
  tell : Nat
  back : Bool
  links : Int → Int → Bool
  mails : List Ml
  has : Int → Int → Hd
  cl : Int → Cl
  seen : List Sn
def updC (f : Int → Cl) (c : Int) (x : Cl) : Int → Cl := fun d => if d = c then x else f d
theorem updC_same (f : Int → Cl) (c : Int) (x : Cl) : updC f c x c = x := if_pos rfl
theorem updC_ne (f : Int → Cl) {c d : Int} (x : Cl) (h : d ≠ c) : updC f c x d = f d := if_neg h
def hd0 : Hd := ⟨⟨0, -1⟩, 0⟩
def hdN : Hd := ⟨⟨-1, -1⟩, 0⟩
def zeroS : Smp := ⟨0, 0⟩

/-- What is sent: lost where the net is full. -/
def sendL (l : List Ml) (m : Ml) : List Ml := if l.length < 500 then l ++ [m] else l
def sendAll (l : List Ml) (n : Nat) (c : Int) (x : Cl) : List Ml := (List.range n).foldl (fun l (j : Nat) => sendL l ⟨n + c, j, ⟨c, x.key, x.rd, x.tells, x.kept⟩⟩) l
/-- A client asks or tells anew. -/
def roundC (x : Cl) : Cl := { x with rd := x.rd + 1, cnt := [] }
def roundS (S : Sto) (c : Int) (x : Cl) : Sto := { S with cl := updC S.cl c (roundC x), mails := sendAll S.mails S.n c (roundC x) }
def snOf (c : Int) (x : Cl) (typ res : Int) (at_ : Smp) : Sn := ⟨c, typ, x.key, x.write, if x.write then x.value else 0, res, at_⟩
def beginC (x : Cl) (key : Int) (write : Bool) (value : Int) : Cl := { x with busy := true, write := write, tells := false, key := key, value := value, kept := hdN }
def beginS (S : Sto) (c key : Int) (write : Bool) (value : Int) : Sto :=
  roundS { S with seen := S.seen ++ [snOf c (beginC (S.cl c) key write value) 1 0 zeroS] } c (beginC (S.cl c) key write value)
def giveS (S : Sto) (c : Int) : Sto := { S with seen := S.seen ++ [snOf c (S.cl c) 4 0 zeroS], cl := updC S.cl c { S.cl c with busy := false, gone := true } }
/-- A node hears. -/
def nodeH (own : Hd) (l : Ltr) : Hd := if l.tells = true ∧ own.s.lt l.h.s then l.h else own
def updH (f : Int → Int → Hd) (j key : Int) (h : Hd) : Int → Int → Hd := fun a b => if a = j ∧ b = key then h else f a b
def nodeS (S : Sto) (m : Ml) : Sto :=
  { S with has := updH S.has m.to m.l.key (nodeH (S.has m.to m.l.key) m.l), mails := sendL S.mails ⟨m.to, m.fr, { m.l with h := nodeH (S.has m.to m.l.key) m.l }⟩ }
/-- A client hears. -/
def countC (x : Cl) (node : Int) (h : Hd) : Cl := { x with cnt := x.cnt ++ [node], kept := if x.tells = false ∧ x.kept.s.lt h.s then h else x.kept }
def tellC (c : Int) (x : Cl) : Cl := { x with kept := if x.write then ⟨⟨x.kept.s.t + 1, c⟩, x.value⟩ else x.kept, tells := true }
def doneS (S : Sto) (c : Int) (x : Cl) : Sto := { S with seen := S.seen ++ [snOf c x 2 (if x.write then 0 else x.kept.v) x.kept.s], cl := updC S.cl c { x with busy := false } }
def hearS (S : Sto) (c node : Int) (l : Ltr) : Sto :=
  let x := S.cl c
  if x.busy = true ∧ l.rd = x.rd ∧ node ∉ x.cnt then
    let y := countC x node l.h
    if y.cnt.length < (if x.tells then S.tell else S.ask) then { S with cl := updC S.cl c y }
    else if x.tells = false ∧ (x.write = true ∨ S.back = true) then roundS S c (tellC c y)
    else doneS S c y
  else S
/-- What is heard, when mail m is taken off. -/
def takeS (S : Sto) (m : Ml) : Sto := if m.to < S.n then nodeS S m else hearS S (m.to - S.n) m.fr m.l
end Go.Proofs.YtncnojgemmcplaaGreatDoor
