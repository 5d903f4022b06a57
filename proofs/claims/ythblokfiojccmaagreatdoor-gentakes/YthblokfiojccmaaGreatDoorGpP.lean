/-
  How a text is read as a generator: in plain Lean.
-/
import Derived.Test.YthblokfiojccmaaGreatDoorGnU
import Derived.Lib.IndexAny
import Derived.Lib.AtoiAll
import Derived.Lib.SlTrimSet
import Derived.Lib.Strings
namespace Go.Proofs.YthblokfiojccmaaGreatDoor.Gn

abbrev BtP := List UInt8
def sepsP : BtP := [40, 41, 44, 32]
def digsP : BtP := [48, 49, 50, 51, 52, 53, 54, 55, 56, 57]

def sgLen (l : BtP) : Nat := if Lib.indexAny l sepsP = -1 then l.length else if Lib.indexAny l sepsP = 0 then 1 else (Lib.indexAny l sepsP).toNat
/-- The signs of a text. -/
def sgs : Nat → BtP → List BtP
  | 0, _ => []
  | _ + 1, [] => []
  | n + 1, c :: l => if c = 32 then sgs n l else (c :: l).take (sgLen (c :: l)) :: sgs n ((c :: l).drop (sgLen (c :: l)))

/-- Whether a sign is a number. -/
def isNum (t : BtP) : Bool :=
  if Lib.trimS (Lib.trimPrefix t [45]) digsP ≠ [] then false
  else t = [48] || (Lib.trimPrefix t [45] ≠ [] && (Lib.trimPrefix t [45]).headD 0 != 48)
structure Rn where
  v : Int
  s : List BtP
def numF (lo hi : Int) : List BtP → Option Rn
  | [] => none
  | t :: s => if isNum t then match Lib.atoiAll t with
      | .ok n => if n < lo ∨ hi < n then none else some ⟨n, s⟩
      | _ => none
    else none
def expF (x : BtP) : List BtP → Option (List BtP)
  | [] => none
  | t :: s => if t = x then some s else none
structure Rg where
  g : Gt
  s : List BtP
structure Rl where
  l : List Gt
  s : List BtP
/-- Further ones, each behind a comma. -/
def moreF (gf : List BtP → Option Rg) : Nat → List Gt → List BtP → Option Rl
  | 0, _, _ => none
  | _ + 1, _, [] => none
  | m + 1, L, t :: s => if t = [44] then match gf s with
      | some r => moreF gf m (L ++ [r.g]) r.s
      | none => none
    else some ⟨L, t :: s⟩
def listF (gf : List BtP → Option Rg) (s : List BtP) : Option Rl :=
  match expF [40] s with
  | none => none
  | some s1 => match gf s1 with
    | none => none
    | some r => match moreF gf (r.s.length + 1) [r.g] r.s with
      | none => none
      | some q => match expF [41] q.s with
        | none => none
        | some z => some ⟨q.l, z⟩
def nmRead : BtP := [114, 101, 97, 100]
def nmWrite : BtP := [119, 114, 105, 116, 101]
def nmLimit : BtP := [108, 105, 109, 105, 116]
def nmMix : BtP := [109, 105, 120]
def nmThen : BtP := [116, 104, 101, 110]
def wrF (s : List BtP) : Option Rg :=
  match numF 0 7 s with
  | none => none
  | some k => match numF (-1000000) 1000000 k.s with
    | none => none
    | some a => match numF a.v 1000000 a.s with
      | none => none
      | some b => some ⟨.wr k.v a.v b.v, b.s⟩
/-- A generator, at most so deep. -/
def gF : Nat → List BtP → Option Rg
  | 0, _ => none
  | _ + 1, [] => none
  | f + 1, t :: s =>
    if t = nmRead then match numF 0 7 s with
      | none => none
      | some k => some ⟨.rd k.v, k.s⟩
    else if t = nmWrite then wrF s
    else if t = nmLimit then match numF 0 1000 s with
      | none => none
      | some k => match gF f k.s with
        | none => none
        | some r => some ⟨.lim r.g k.v.toNat, r.s⟩
    else if t = nmMix then match listF (gF f) s with
      | none => none
      | some r => some ⟨.mix r.l, r.s⟩
    else if t = nmThen then match listF (gF f) s with
      | none => none
      | some r => some ⟨.thn r.l, r.s⟩
    else none
def parseF (l : BtP) : Option Gt :=
  if 2000 < l.length then none else match gF 20 (sgs l.length l ++ [[]]) with
    | none => none
    | some r => if r.s.headD [] = [] then some r.g else none

end Go.Proofs.YthblokfiojccmaaGreatDoor.Gn
