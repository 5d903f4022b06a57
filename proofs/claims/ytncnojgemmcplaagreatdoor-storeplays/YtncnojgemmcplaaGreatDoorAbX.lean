/-
  Chapters 16 and 17 in plain Lean: the moves of a store, and what they tell.
-/
import Derived.Test.YtncnojgemmcplaaGreatDoorAbRZ
import Derived.Test.YtncnojgemmcplaaGreatDoorPlainAZ
import Derived.Test.YtncnojgemmcplaaGreatDoorEvs
import Derived.Test.YtncnojgemmcplaaGreatDoorAbL
import Derived.Test.YtncnojgemmcplaaGreatDoorBsGZ
namespace Go.Proofs.YtncnojgemmcplaaGreatDoor

/-- A client counts as a node. -/
def asNode (n : Nat) (i : Int) : Int := if (n : Int) ≤ i then (i - n) % n else i
def cutL (n k : Nat) (what who : Int) : Int → Int → Bool := fun a b => decide (0 ≤ a ∧ a < n + k) && decide (0 ≤ b ∧ b < n + k) && linkedB what n who (asNode n a) (asNode n b)

/-- How many clients are at something. -/
def busyN (S : Sto) : Nat := (List.range S.k).countP fun (j : Nat) => (S.cl j).busy
/-- 17.2: Free: 0, 2 (ErrRange), 6 (ErrState), 4 (ErrLimit). -/
def freeE (S : Sto) (c : Int) : Int :=
  if c < 0 ∨ (S.k : Int) ≤ c then 2
  else if (S.cl c).busy = true ∨ (S.cl c).gone = true then 6
  else if 120 < S.seen.length + 2 + busyN S then 4 else 0
def beginE (S : Sto) (c key : Int) (write : Bool) (value : Int) : Int :=
  if key < 0 ∨ 7 < key ∨ numB value = false ∨ (value ≠ 0 ∧ write = false) then 2 else freeE S c
def giveE (S : Sto) (c : Int) : Int := if c < 0 ∨ (S.k : Int) ≤ c then 2 else if (S.cl c).busy = false then 6 else 0
/-- 16.2, 17.4: what is taken, lost, doubled: 8 (ErrNone), 6 (ErrState), 4 (ErrLimit). -/
def takeE (S : Sto) (i : Int) : Int := if i < 0 ∨ (S.mails.length : Int) ≤ i then 8 else match S.mails[i.toNat]? with
  | none => 8
  | some m => if S.links m.fr m.to = true then 0 else 6
def delivS (S : Sto) (i : Int) : Sto := match S.mails[i.toNat]? with
  | none => S
  | some m => takeS { S with mails := S.mails.eraseIdx i.toNat } m
def dropE (S : Sto) (i : Int) : Int := if i < 0 ∨ (S.mails.length : Int) ≤ i then 8 else 0
def doubE (S : Sto) (i : Int) : Int := if i < 0 ∨ (S.mails.length : Int) ≤ i then 8 else if 500 ≤ S.mails.length then 4 else 0
def doubS (S : Sto) (i : Int) : Sto := match S.mails[i.toNat]? with
  | none => S
  | some m => { S with mails := sendL S.mails m }
/-- 17.4: Cut by a rule: 4 (ErrLimit), 2 (ErrRange), 3 (ErrForm). -/
def cutE (S : Sto) (what n who : Int) : Int := if n < 1 ∨ 7 < n then 4 else if what = 4 ∧ (who < 0 ∨ n ≤ who) then 2 else if n ≠ S.n then 3 else 0
def ruleOf (m : Mvs) : Int := if 7 ≤ m.what ∧ m.what ≤ 10 then m.what - 7 else 4

/-- What a move tells, and what it makes. -/
def playE (S : Sto) (m : Mvs) : Int :=
  if m.what = 0 then beginE S m.a m.b false m.c
  else if m.what = 1 then beginE S m.a m.b true m.c
  else if m.what = 2 then takeE S m.a
  else if m.what = 3 then dropE S m.a
  else if m.what = 4 then doubE S m.a
  else if m.what = 5 then giveE S m.a
  else if m.what = 6 then 0
  else cutE S (ruleOf m) m.a m.b
def playS (S : Sto) (m : Mvs) : Sto :=
  if playE S m ≠ 0 then S
  else if m.what = 0 then beginS S m.a m.b false m.c
  else if m.what = 1 then beginS S m.a m.b true m.c
  else if m.what = 2 then delivS S m.a
  else if m.what = 3 then { S with mails := S.mails.eraseIdx m.a.toNat }
  else if m.what = 4 then doubS S m.a
  else if m.what = 5 then giveS S m.a
  else if m.what = 6 then { S with links := fun _ _ => true }
  else { S with links := cutL S.n S.k (ruleOf m) m.b }
def runS (S : Sto) (l : List Mvs) : Sto := l.foldl playS S

/-- What no move turns. -/
def SameP (S S' : Sto) : Prop := S'.n = S.n ∧ S'.k = S.k ∧ S'.ask = S.ask ∧ S'.tell = S.tell ∧ S'.back = S.back
theorem SameP.refl (S : Sto) : SameP S S := ⟨rfl, rfl, rfl, rfl, rfl⟩
theorem hear_same (S : Sto) (c node : Int) (l : Ltr) : SameP S (hearS S c node l) := by
  unfold hearS
  simp only
  repeat' split
  all_goals exact .refl S
theorem take_same (S : Sto) (m : Ml) : SameP S (takeS S m) := by
  unfold takeS
  split
  · exact .refl S
  · exact hear_same S _ _ _
theorem deliv_same (S : Sto) (i : Int) : SameP S (delivS S i) := by
  unfold delivS
  split
  · exact .refl S
  · exact take_same { S with mails := S.mails.eraseIdx i.toNat } _
theorem play_same (S : Sto) (m : Mvs) : SameP S (playS S m) := by
  unfold playS
  repeat' split
  all_goals first | exact .refl S | exact deliv_same S _ | skip
  unfold doubS
  split <;> exact .refl S

theorem free_parts {S : Sto} {c : Int} (h : freeE S c = 0) : 0 ≤ c ∧ c < S.k ∧ (S.cl c).busy = false ∧ (S.cl c).gone = false := by
  unfold freeE at h
  split at h
  · cases h
  · split at h
    · cases h
    · rename_i h1 h2
      refine ⟨by omega, by omega, ?_, ?_⟩
      · cases e : (S.cl c).busy with
        | false => rfl
        | true => exact absurd (.inl e) h2
      · cases e : (S.cl c).gone with
        | false => rfl
        | true => exact absurd (.inr e) h2
theorem begin_parts {S : Sto} {c key value : Int} {write : Bool} (h : beginE S c key write value = 0) : eightB key = true ∧ numB value = true ∧ freeE S c = 0 := by
  unfold beginE at h
  split at h
  · cases h
  · rename_i h1
    refine ⟨by simp [eightB]; omega, ?_, h⟩
    cases e : numB value with
    | true => rfl
    | false => exact absurd (.inr (.inr (.inl e))) h1
end Go.Proofs.YtncnojgemmcplaaGreatDoor
