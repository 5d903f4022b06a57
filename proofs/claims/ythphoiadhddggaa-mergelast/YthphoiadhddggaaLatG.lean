/-
  The statements' own word 'lattice', at whatever type: joined whichever way, once or twice, over others: the same. Its one region draws its order; it is walked once, for all three types.
-/
import Derived.Test.YthphoiadhddggaaRgI
namespace Go.Proofs.Ythphoiadhddggaa
open Go.RowKit

/-- The region's operations, at type T (slices of it: TS), with All function fA. -/
def latOps (T TS : TypeId) (fA : Nat) : Array Oper := #[
  { dst := some 7, op := Op.load T (Operand.tmp 3), type := T, pos := "mixed.go:420", after := #[], guard := none },
  { dst := some 8, op := Op.makeInterface T (Operand.tmp 7), type := 20, pos := "mixed.go:420", after := #[{ on := 0, ground := Ground.data }], guard := none },
  { dst := some 9, op := Op.load T (Operand.tmp 4), type := T, pos := "mixed.go:420", after := #[], guard := none },
  { dst := some 10, op := Op.call { callee := Callee.invoke (Operand.tmp 8) "Join", args := #[Operand.tmp 9], argTypes := #[T] }, type := T, pos := "mixed.go:420", after := #[{ on := 1, ground := Ground.data }, { on := 2, ground := Ground.data }], guard := none },
  { dst := some 11, op := Op.makeInterface T (Operand.tmp 10), type := 20, pos := "mixed.go:420", after := #[{ on := 3, ground := Ground.data }], guard := none },
  { dst := some 12, op := Op.load T (Operand.tmp 4), type := T, pos := "mixed.go:420", after := #[], guard := none },
  { dst := some 13, op := Op.makeInterface T (Operand.tmp 12), type := 20, pos := "mixed.go:420", after := #[{ on := 5, ground := Ground.data }], guard := none },
  { dst := some 14, op := Op.load T (Operand.tmp 3), type := T, pos := "mixed.go:420", after := #[], guard := none },
  { dst := some 15, op := Op.call { callee := Callee.invoke (Operand.tmp 13) "Join", args := #[Operand.tmp 14], argTypes := #[T] }, type := T, pos := "mixed.go:420", after := #[{ on := 6, ground := Ground.data }, { on := 7, ground := Ground.data }, { on := 3, ground := Ground.chain }], guard := none },
  { dst := some 16, op := Op.call { callee := Callee.invoke (Operand.tmp 11) "Same", args := #[Operand.tmp 15], argTypes := #[T] }, type := 4, pos := "mixed.go:420", after := #[{ on := 4, ground := Ground.data }, { on := 8, ground := Ground.data }, { on := 8, ground := Ground.chain }], guard := none },
  { dst := some 17, op := Op.move (Operand.tmp 16), type := 4, pos := "mixed.go:420", after := #[{ on := 9, ground := Ground.data }, { on := 9, ground := Ground.chain }], guard := none },
  { dst := some 18, op := Op.load T (Operand.tmp 3), type := T, pos := "mixed.go:420", after := #[{ on := 10, ground := Ground.guard }], guard := some (10, true) },
  { dst := some 19, op := Op.makeInterface T (Operand.tmp 18), type := 20, pos := "mixed.go:420", after := #[{ on := 11, ground := Ground.data }, { on := 10, ground := Ground.guard }], guard := some (10, true) },
  { dst := some 20, op := Op.load T (Operand.tmp 3), type := T, pos := "mixed.go:420", after := #[{ on := 10, ground := Ground.guard }], guard := some (10, true) },
  { dst := some 21, op := Op.call { callee := Callee.invoke (Operand.tmp 19) "Join", args := #[Operand.tmp 20], argTypes := #[T] }, type := T, pos := "mixed.go:420", after := #[{ on := 12, ground := Ground.data }, { on := 13, ground := Ground.data }, { on := 10, ground := Ground.chain }, { on := 10, ground := Ground.guard }], guard := some (10, true) },
  { dst := some 22, op := Op.makeInterface T (Operand.tmp 21), type := 20, pos := "mixed.go:420", after := #[{ on := 14, ground := Ground.data }, { on := 10, ground := Ground.guard }], guard := some (10, true) },
  { dst := some 23, op := Op.load T (Operand.tmp 3), type := T, pos := "mixed.go:420", after := #[{ on := 10, ground := Ground.guard }], guard := some (10, true) },
  { dst := some 24, op := Op.call { callee := Callee.invoke (Operand.tmp 22) "Same", args := #[Operand.tmp 23], argTypes := #[T] }, type := 4, pos := "mixed.go:420", after := #[{ on := 15, ground := Ground.data }, { on := 16, ground := Ground.data }, { on := 14, ground := Ground.chain }, { on := 10, ground := Ground.guard }], guard := some (10, true) },
  { dst := some 25, op := Op.pick (Operand.tmp 17) (Operand.tmp 24) (Operand.const (Value.bool false)), type := 4, pos := "mixed.go:420", after := #[{ on := 10, ground := Ground.data }, { on := 17, ground := Ground.data }], guard := none },
  { dst := some 26, op := Op.move (Operand.tmp 25), type := 4, pos := "mixed.go:420", after := #[{ on := 18, ground := Ground.data }, { on := 17, ground := Ground.chain }], guard := none },
  { dst := some 27, op := Op.load T (Operand.tmp 3), type := T, pos := "mixed.go:420", after := #[{ on := 19, ground := Ground.guard }], guard := some (19, true) },
  { dst := some 28, op := Op.makeInterface T (Operand.tmp 27), type := 20, pos := "mixed.go:420", after := #[{ on := 20, ground := Ground.data }, { on := 19, ground := Ground.guard }], guard := some (19, true) },
  { dst := some 29, op := Op.load T (Operand.tmp 4), type := T, pos := "mixed.go:420", after := #[{ on := 19, ground := Ground.guard }], guard := some (19, true) },
  { dst := some 30, op := Op.call { callee := Callee.invoke (Operand.tmp 28) "Join", args := #[Operand.tmp 29], argTypes := #[T] }, type := T, pos := "mixed.go:420", after := #[{ on := 21, ground := Ground.data }, { on := 22, ground := Ground.data }, { on := 19, ground := Ground.chain }, { on := 19, ground := Ground.guard }], guard := some (19, true) },
  { dst := some 31, op := Op.makeInterface T (Operand.tmp 30), type := 20, pos := "mixed.go:420", after := #[{ on := 23, ground := Ground.data }, { on := 19, ground := Ground.guard }], guard := some (19, true) },
  { dst := some 32, op := Op.load T (Operand.tmp 5), type := T, pos := "mixed.go:420", after := #[{ on := 19, ground := Ground.guard }], guard := some (19, true) },
  { dst := some 33, op := Op.call { callee := Callee.invoke (Operand.tmp 31) "Join", args := #[Operand.tmp 32], argTypes := #[T] }, type := T, pos := "mixed.go:420", after := #[{ on := 24, ground := Ground.data }, { on := 25, ground := Ground.data }, { on := 23, ground := Ground.chain }, { on := 19, ground := Ground.guard }], guard := some (19, true) },
  { dst := some 34, op := Op.makeInterface T (Operand.tmp 33), type := 20, pos := "mixed.go:420", after := #[{ on := 26, ground := Ground.data }, { on := 19, ground := Ground.guard }], guard := some (19, true) },
  { dst := some 35, op := Op.load T (Operand.tmp 3), type := T, pos := "mixed.go:420", after := #[{ on := 19, ground := Ground.guard }], guard := some (19, true) },
  { dst := some 36, op := Op.makeInterface T (Operand.tmp 35), type := 20, pos := "mixed.go:420", after := #[{ on := 28, ground := Ground.data }, { on := 19, ground := Ground.guard }], guard := some (19, true) },
  { dst := some 37, op := Op.load T (Operand.tmp 4), type := T, pos := "mixed.go:420", after := #[{ on := 19, ground := Ground.guard }], guard := some (19, true) },
  { dst := some 38, op := Op.makeInterface T (Operand.tmp 37), type := 20, pos := "mixed.go:420", after := #[{ on := 30, ground := Ground.data }, { on := 19, ground := Ground.guard }], guard := some (19, true) },
  { dst := some 39, op := Op.load T (Operand.tmp 5), type := T, pos := "mixed.go:420", after := #[{ on := 19, ground := Ground.guard }], guard := some (19, true) },
  { dst := some 40, op := Op.call { callee := Callee.invoke (Operand.tmp 38) "Join", args := #[Operand.tmp 39], argTypes := #[T] }, type := T, pos := "mixed.go:420", after := #[{ on := 31, ground := Ground.data }, { on := 32, ground := Ground.data }, { on := 26, ground := Ground.chain }, { on := 19, ground := Ground.guard }], guard := some (19, true) },
  { dst := some 41, op := Op.call { callee := Callee.invoke (Operand.tmp 36) "Join", args := #[Operand.tmp 40], argTypes := #[T] }, type := T, pos := "mixed.go:420", after := #[{ on := 29, ground := Ground.data }, { on := 33, ground := Ground.data }, { on := 33, ground := Ground.chain }, { on := 19, ground := Ground.guard }], guard := some (19, true) },
  { dst := some 42, op := Op.call { callee := Callee.invoke (Operand.tmp 34) "Same", args := #[Operand.tmp 41], argTypes := #[T] }, type := 4, pos := "mixed.go:420", after := #[{ on := 27, ground := Ground.data }, { on := 34, ground := Ground.data }, { on := 34, ground := Ground.chain }, { on := 19, ground := Ground.guard }], guard := some (19, true) },
  { dst := some 43, op := Op.pick (Operand.tmp 26) (Operand.tmp 42) (Operand.const (Value.bool false)), type := 4, pos := "mixed.go:420", after := #[{ on := 19, ground := Ground.data }, { on := 35, ground := Ground.data }], guard := none },
  { dst := some 44, op := Op.move (Operand.tmp 43), type := 4, pos := "mixed.go:420", after := #[{ on := 36, ground := Ground.data }, { on := 35, ground := Ground.chain }], guard := none },
  { dst := some 45, op := Op.load T (Operand.tmp 3), type := T, pos := "mixed.go:420", after := #[{ on := 37, ground := Ground.guard }], guard := some (37, true) },
  { dst := some 46, op := Op.load T (Operand.tmp 4), type := T, pos := "mixed.go:420", after := #[{ on := 37, ground := Ground.guard }], guard := some (37, true) },
  { dst := some 47, op := Op.load T (Operand.tmp 5), type := T, pos := "mixed.go:420", after := #[{ on := 37, ground := Ground.guard }], guard := some (37, true) },
  { dst := some 48, op := Op.buildSlice TS 2 #[(0, Operand.tmp 46), (1, Operand.tmp 47)], type := TS, pos := "mixed.go:420", after := #[{ on := 39, ground := Ground.data }, { on := 40, ground := Ground.data }, { on := 37, ground := Ground.guard }], guard := some (37, true) },
  { dst := some 49, op := Op.call { callee := Callee.value (Operand.func fA), args := #[Operand.tmp 45, Operand.tmp 48], argTypes := #[T, TS] }, type := T, pos := "mixed.go:420", after := #[{ on := 38, ground := Ground.data }, { on := 41, ground := Ground.data }, { on := 37, ground := Ground.chain }, { on := 37, ground := Ground.guard }], guard := some (37, true) },
  { dst := some 50, op := Op.makeInterface T (Operand.tmp 49), type := 20, pos := "mixed.go:420", after := #[{ on := 42, ground := Ground.data }, { on := 37, ground := Ground.guard }], guard := some (37, true) },
  { dst := some 51, op := Op.load T (Operand.tmp 5), type := T, pos := "mixed.go:420", after := #[{ on := 37, ground := Ground.guard }], guard := some (37, true) },
  { dst := some 52, op := Op.load T (Operand.tmp 3), type := T, pos := "mixed.go:420", after := #[{ on := 37, ground := Ground.guard }], guard := some (37, true) },
  { dst := some 53, op := Op.load T (Operand.tmp 4), type := T, pos := "mixed.go:420", after := #[{ on := 37, ground := Ground.guard }], guard := some (37, true) },
  { dst := some 54, op := Op.load T (Operand.tmp 3), type := T, pos := "mixed.go:420", after := #[{ on := 37, ground := Ground.guard }], guard := some (37, true) },
  { dst := some 55, op := Op.buildSlice TS 3 #[(0, Operand.tmp 52), (1, Operand.tmp 53), (2, Operand.tmp 54)], type := TS, pos := "mixed.go:420", after := #[{ on := 45, ground := Ground.data }, { on := 46, ground := Ground.data }, { on := 47, ground := Ground.data }, { on := 37, ground := Ground.guard }], guard := some (37, true) },
  { dst := some 56, op := Op.call { callee := Callee.value (Operand.func fA), args := #[Operand.tmp 51, Operand.tmp 55], argTypes := #[T, TS] }, type := T, pos := "mixed.go:420", after := #[{ on := 44, ground := Ground.data }, { on := 48, ground := Ground.data }, { on := 42, ground := Ground.chain }, { on := 37, ground := Ground.guard }], guard := some (37, true) },
  { dst := some 57, op := Op.call { callee := Callee.invoke (Operand.tmp 50) "Same", args := #[Operand.tmp 56], argTypes := #[T] }, type := 4, pos := "mixed.go:420", after := #[{ on := 43, ground := Ground.data }, { on := 49, ground := Ground.data }, { on := 49, ground := Ground.chain }, { on := 37, ground := Ground.guard }], guard := some (37, true) },
  { dst := some 58, op := Op.pick (Operand.tmp 44) (Operand.tmp 57) (Operand.const (Value.bool false)), type := 4, pos := "mixed.go:420", after := #[{ on := 37, ground := Ground.data }, { on := 50, ground := Ground.data }], guard := none },
  { dst := some 6, op := Op.assign (Operand.tmp 58), type := 4, pos := "mixed.go:420", after := #[{ on := 51, ground := Ground.data }, { on := 50, ground := Ground.chain }, { on := 0, ground := Ground.phase }, { on := 1, ground := Ground.phase }, { on := 2, ground := Ground.phase }, { on := 3, ground := Ground.phase }, { on := 4, ground := Ground.phase }, { on := 5, ground := Ground.phase }, { on := 6, ground := Ground.phase }, { on := 7, ground := Ground.phase }, { on := 8, ground := Ground.phase }, { on := 9, ground := Ground.phase }, { on := 10, ground := Ground.phase }, { on := 11, ground := Ground.phase }, { on := 12, ground := Ground.phase }, { on := 13, ground := Ground.phase }, { on := 14, ground := Ground.phase }, { on := 15, ground := Ground.phase }, { on := 16, ground := Ground.phase }, { on := 17, ground := Ground.phase }, { on := 18, ground := Ground.phase }, { on := 19, ground := Ground.phase }, { on := 20, ground := Ground.phase }, { on := 21, ground := Ground.phase }, { on := 22, ground := Ground.phase }, { on := 23, ground := Ground.phase }, { on := 24, ground := Ground.phase }, { on := 25, ground := Ground.phase }, { on := 26, ground := Ground.phase }, { on := 27, ground := Ground.phase }, { on := 28, ground := Ground.phase }, { on := 29, ground := Ground.phase }, { on := 30, ground := Ground.phase }, { on := 31, ground := Ground.phase }, { on := 32, ground := Ground.phase }, { on := 33, ground := Ground.phase }, { on := 34, ground := Ground.phase }, { on := 35, ground := Ground.phase }, { on := 36, ground := Ground.phase }, { on := 37, ground := Ground.phase }, { on := 38, ground := Ground.phase }, { on := 39, ground := Ground.phase }, { on := 40, ground := Ground.phase }, { on := 41, ground := Ground.phase }, { on := 42, ground := Ground.phase }, { on := 43, ground := Ground.phase }, { on := 44, ground := Ground.phase }, { on := 45, ground := Ground.phase }, { on := 46, ground := Ground.phase }, { on := 47, ground := Ground.phase }, { on := 48, ground := Ground.phase }, { on := 49, ground := Ground.phase }, { on := 50, ground := Ground.phase }, { on := 51, ground := Ground.phase }], guard := none }]
def latSlots : List Nat := [7, 8, 9, 10, 11, 12, 13, 14, 15, 16, 17, 18, 19, 20, 21, 22, 23, 24, 25, 26, 27, 28, 29, 30, 31, 32, 33, 34, 35, 36, 37, 38, 39, 40, 41, 42, 43, 44, 45, 46, 47, 48, 49, 50, 51, 52, 53, 54, 55, 56, 57, 58, 6]

theorem if_of {c : Prop} [Decidable c] {p q : Prop} (hc : c) (hp : p) : if c then p else q := by rw [if_pos hc]; exact hp
theorem nodup_inj {l : List Nat} (hn : l.Nodup) {i j : Nat} (hi : i < l.length) (hj : j < l.length) (e : l[i] = l[j]) : i = j := by
  rcases Nat.lt_trichotomy i j with h | h | h
  · exact absurd e (List.pairwise_iff_getElem.1 hn i j hi hj h)
  · exact h
  · exact absurd e.symm (List.pairwise_iff_getElem.1 hn j i hj hi h)
theorem slot_ne (k : Nat) (h : latSlots.all (fun x => x != k) = true) (j : Nat) (hj : j < 53) : latSlots.getD j 0 ≠ k := by
  have hl : latSlots.length = 53 := rfl
  simp only [List.getD_eq_getElem?_getD, List.getElem?_eq_getElem (hl ▸ hj : j < latSlots.length), Option.getD_some]
  have := List.all_eq_true.1 h _ (List.getElem_mem (hl ▸ hj : j < latSlots.length))
  simpa using this
theorem back_of {i : Nat} {es : Array Edge} (h : es.all (fun e => decide (e.on < i)) = true) : ∀ e ∈ es, Region.binds .any e = true → e.on < i := fun e he _ => by
  have := Array.all_eq_true'.1 h e he
  simpa using this
theorem lat_dst {T TS : TypeId} {fA : Nat} : ∀ j, j < 53 → ((latOps T TS fA)[j]?.bind (·.dst)) = some (latSlots.getD j 0) := by
  intro j hj
  match j, hj with
  | 0, _ => rfl
  | 1, _ => rfl
  | 2, _ => rfl
  | 3, _ => rfl
  | 4, _ => rfl
  | 5, _ => rfl
  | 6, _ => rfl
  | 7, _ => rfl
  | 8, _ => rfl
  | 9, _ => rfl
  | 10, _ => rfl
  | 11, _ => rfl
  | 12, _ => rfl
  | 13, _ => rfl
  | 14, _ => rfl
  | 15, _ => rfl
  | 16, _ => rfl
  | 17, _ => rfl
  | 18, _ => rfl
  | 19, _ => rfl
  | 20, _ => rfl
  | 21, _ => rfl
  | 22, _ => rfl
  | 23, _ => rfl
  | 24, _ => rfl
  | 25, _ => rfl
  | 26, _ => rfl
  | 27, _ => rfl
  | 28, _ => rfl
  | 29, _ => rfl
  | 30, _ => rfl
  | 31, _ => rfl
  | 32, _ => rfl
  | 33, _ => rfl
  | 34, _ => rfl
  | 35, _ => rfl
  | 36, _ => rfl
  | 37, _ => rfl
  | 38, _ => rfl
  | 39, _ => rfl
  | 40, _ => rfl
  | 41, _ => rfl
  | 42, _ => rfl
  | 43, _ => rfl
  | 44, _ => rfl
  | 45, _ => rfl
  | 46, _ => rfl
  | 47, _ => rfl
  | 48, _ => rfl
  | 49, _ => rfl
  | 50, _ => rfl
  | 51, _ => rfl
  | 52, _ => rfl
  | n + 53, h => omega

section
variable {P : Program} {E : Type} (Rep : E → Value → World → Prop) (RepS : List E → Value → World → Prop) (jn : E → E → E) (sm : E → E → Bool)
/-- What is asked of Join, Same and All. -/
structure LatOk (P : Program) (T TS : TypeId) (fJ fS fA : Nat) : Prop where
  stab : ∀ x v w w', Rep x v w → Below w.heap.size w w' → Rep x v w'
  stabS : ∀ x v w w', RepS x v w → Below w.heap.size w w' → RepS x v w'
  mJ : ∀ u v w, (callMethod (.iface T u) "Join" #[v]).run P w = .ok (.enter fJ #[u, v]) w
  mS : ∀ u v w, (callMethod (.iface T u) "Same" #[v]).run P w = .ok (.enter fS #[u, v]) w
  cA : ∀ args w, (callFunc fA args).run P w = .ok (.enter fA args) w
  mkI : ∀ u w, (Instr.makeInterface T u).run P w = .ok (.iface T u) w
  join : ∀ x y u v w, Rep x u w → Rep y v w → Calls P fJ #[u, v] w fun e w' => ∃ r, e = .returned r ∧ Rep (jn x y) r w' ∧ Below w.heap.size w w'
  same : ∀ x y u v w, Rep x u w → Rep y v w → Calls P fS #[u, v] w fun e w' => e = .returned (.bool (sm x y)) ∧ Below w.heap.size w w'
  b2 : ∀ x y u v w, Rep x u w → Rep y v w → ∃ s w', (Instr.buildSlice TS 2 #[(0, u), (1, v)]).run P w = .ok s w' ∧ RepS [x, y] s w' ∧ Below w.heap.size w w'
  b3 : ∀ x y z u v t w, Rep x u w → Rep y v w → Rep z t w → ∃ s w', (Instr.buildSlice TS 3 #[(0, u), (1, v), (2, t)]).run P w = .ok s w' ∧ RepS [x, y, z] s w' ∧ Below w.heap.size w w'
  all : ∀ x xs u s w, Rep x u w → RepS xs s w → Calls P fA #[u, s] w fun e w' => ∃ r, e = .returned r ∧ Rep (xs.foldl jn x) r w' ∧ Below w.heap.size w w'

/-- What an operation yields. -/
inductive Kd (E : Type) where
  | R (x : E) | F (x : E) | S (xs : List E) | B
def kdVal (T : TypeId) : Kd E → Value → World → Prop
  | .R x, v, w => Rep x v w
  | .F x, v, w => ∃ u, v = .iface T u ∧ Rep x u w
  | .S xs, v, w => RepS xs v w
  | .B, v, _ => v = .bool true
def latKd (A B C : E) : List (Kd E) := [.R A, .F A, .R B, .R (jn A B), .F (jn A B), .R B, .F B, .R A, .R (jn B A), .B, .B, .R A, .F A, .R A, .R (jn A A), .F (jn A A), .R A, .B, .B, .B, .R A, .F A, .R B, .R (jn A B), .F (jn A B), .R C, .R (jn (jn A B) C), .F (jn (jn A B) C), .R A, .F A, .R B, .F B, .R C, .R (jn B C), .R (jn A (jn B C)), .B, .B, .B, .R A, .R B, .R C, .S [B, C], .R ([B, C].foldl jn A), .F ([B, C].foldl jn A), .R C, .R A, .R B, .R A, .S [A, B, A], .R ([A, B, A].foldl jn C), .B, .B, .B]
def latVal (T : TypeId) (A B C : E) (i : Nat) (v : Value) (w : World) : Prop := kdVal Rep RepS T ((latKd jn A B C).getD i .B) v w

theorem yield_true {ops : Array Oper} {tmps : Array Value} {j d : Nat} (ho : (ops[j]?).bind (·.dst) = some d) (hv : tmps.getD d undef = .bool true) : yielded ops tmps j = some true := by
  unfold yielded
  rw [ho]
  have : tmps[d]? = some (.bool true) := by
    rw [Array.getD_eq_getD_getElem?] at hv
    cases h : tmps[d]? with
    | none => rw [h] at hv; cases hv
    | some x => rw [h] at hv; simp at hv; rw [hv]
  simp [this]


section
variable {T TS : TypeId} {fJ fS fA : Nat} (L : LatOk Rep RepS jn sm P T TS fJ fS fA) {A B C : E}
variable {Q : Exit → Act → World → Prop} {K : Act → World → Prop} {a : Act} {w : World}
theorem st_load {o : Oper} {x : Nat} {b : Nat} {X : E} (ho : o.op = .load T (.tmp x)) (hx : a.tmps.getD x undef = .pointer (some ⟨b, 0, none⟩)) (hl : ∃ u, (Instr.loadAt T (.pointer (some ⟨b, 0, none⟩))).run P w = .ok u w ∧ Rep X u w)
    (hK : ∀ v w', Below w.heap.size w w' → kdVal Rep RepS T (.R X) v w' → K (a.put o.dst v) w') : Oper.wp P o a w K Q := by
  obtain ⟨u, h1, h2⟩ := hl
  unfold Oper.wp
  have : (execOp a.eval o).run P w = .ok (.value u) w := by simp [execOp, ho, Act.eval, hx, h1, Result.andThen, -Array.getD_eq_getD_getElem?]
  rw [this]
  exact hK u w (Below.refl _ _) h2
include L in
theorem st_iface {o : Oper} {x : Nat} {X : E} (ho : o.op = .makeInterface T (.tmp x)) (hx : kdVal Rep RepS T (.R X) (a.tmps.getD x undef) w)
    (hK : ∀ v w', Below w.heap.size w w' → kdVal Rep RepS T (.F X) v w' → K (a.put o.dst v) w') : Oper.wp P o a w K Q := by
  unfold Oper.wp
  have : (execOp a.eval o).run P w = .ok (.value (.iface T (a.tmps.getD x undef))) w := by simp [execOp, ho, Act.eval, L.mkI, Result.andThen, -Array.getD_eq_getD_getElem?]
  rw [this]
  exact hK _ w (Below.refl _ _) ⟨_, rfl, hx⟩
theorem st_move {o : Oper} {x : Nat} (ho : o.op = .move (.tmp x) ∨ o.op = .assign (.tmp x)) (hx : kdVal Rep RepS T .B (a.tmps.getD x undef) w)
    (hK : ∀ v w', Below w.heap.size w w' → kdVal Rep RepS T .B v w' → K (a.put o.dst v) w') : Oper.wp P o a w K Q := by
  unfold Oper.wp
  have : (execOp a.eval o).run P w = .ok (.value (a.tmps.getD x undef)) w := by rcases ho with ho | ho <;> simp [execOp, ho, Act.eval, -Array.getD_eq_getD_getElem?]
  rw [this]
  exact hK _ w (Below.refl _ _) hx
theorem st_pick {o : Oper} {x y : Nat} {z : Operand} (ho : o.op = .pick (.tmp x) (.tmp y) z) (hx : kdVal Rep RepS T .B (a.tmps.getD x undef) w) (hy : kdVal Rep RepS T .B (a.tmps.getD y undef) w)
    (hK : ∀ v w', Below w.heap.size w w' → kdVal Rep RepS T .B v w' → K (a.put o.dst v) w') : Oper.wp P o a w K Q := by
  unfold Oper.wp
  have hx' : a.tmps.getD x undef = .bool true := hx
  have hy' : a.tmps.getD y undef = .bool true := hy
  have : (execOp a.eval o).run P w = .ok (.value (.bool true)) w := by simp [execOp, ho, Act.eval, hx', hy', asBool, -Array.getD_eq_getD_getElem?]
  rw [this]
  exact hK _ w (Below.refl _ _) rfl
include L in
theorem st_join {o : Oper} {x y : Nat} {X Y : E} {ts : Array TypeId} (ho : o.op = .call { callee := .invoke (.tmp x) "Join", args := #[.tmp y], argTypes := ts }) (hx : kdVal Rep RepS T (.F X) (a.tmps.getD x undef) w) (hy : kdVal Rep RepS T (.R Y) (a.tmps.getD y undef) w)
    (hK : ∀ v w', Below w.heap.size w w' → kdVal Rep RepS T (.R (jn X Y)) v w' → K (a.put o.dst v) w') : Oper.wp P o a w K Q := by
  obtain ⟨u, hu, hX⟩ := hx
  unfold Oper.wp
  have : (execOp a.eval o).run P w = .ok (.enter fJ #[u, a.tmps.getD y undef]) w := by simp [execOp, ho, Act.eval, resolve, invoke, hu, L.mJ, -Array.getD_eq_getD_getElem?]
  rw [this]
  refine (L.join X Y u _ w hX hy).mono fun e w' ⟨r, he, h1, h2⟩ => ?_
  subst he
  exact hK r w' h2 h1
include L in
theorem st_same {o : Oper} {x y : Nat} {X Y : E} {ts : Array TypeId} (ho : o.op = .call { callee := .invoke (.tmp x) "Same", args := #[.tmp y], argTypes := ts }) (hs : sm X Y = true) (hx : kdVal Rep RepS T (.F X) (a.tmps.getD x undef) w) (hy : kdVal Rep RepS T (.R Y) (a.tmps.getD y undef) w)
    (hK : ∀ v w', Below w.heap.size w w' → kdVal Rep RepS T .B v w' → K (a.put o.dst v) w') : Oper.wp P o a w K Q := by
  obtain ⟨u, hu, hX⟩ := hx
  unfold Oper.wp
  have : (execOp a.eval o).run P w = .ok (.enter fS #[u, a.tmps.getD y undef]) w := by simp [execOp, ho, Act.eval, resolve, invoke, hu, L.mS, -Array.getD_eq_getD_getElem?]
  rw [this]
  refine (L.same X Y u _ w hX hy).mono fun e w' ⟨he, h2⟩ => ?_
  subst he
  exact hK _ w' h2 (by rw [hs]; rfl)
include L in
theorem st_b2 {o : Oper} {x y : Nat} {X Y : E} (ho : o.op = .buildSlice TS 2 #[(0, .tmp x), (1, .tmp y)]) (hx : kdVal Rep RepS T (.R X) (a.tmps.getD x undef) w) (hy : kdVal Rep RepS T (.R Y) (a.tmps.getD y undef) w)
    (hK : ∀ v w', Below w.heap.size w w' → kdVal Rep RepS T (.S [X, Y]) v w' → K (a.put o.dst v) w') : Oper.wp P o a w K Q := by
  obtain ⟨s, w', h1, h2, h3⟩ := L.b2 X Y _ _ w hx hy
  unfold Oper.wp
  have : (execOp a.eval o).run P w = .ok (.value s) w' := by simp [execOp, ho, Act.eval, h1, Result.andThen, -Array.getD_eq_getD_getElem?]
  rw [this]
  exact hK _ w' h3 h2
include L in
theorem st_b3 {o : Oper} {x y z : Nat} {X Y Z : E} (ho : o.op = .buildSlice TS 3 #[(0, .tmp x), (1, .tmp y), (2, .tmp z)]) (hx : kdVal Rep RepS T (.R X) (a.tmps.getD x undef) w) (hy : kdVal Rep RepS T (.R Y) (a.tmps.getD y undef) w) (hz : kdVal Rep RepS T (.R Z) (a.tmps.getD z undef) w)
    (hK : ∀ v w', Below w.heap.size w w' → kdVal Rep RepS T (.S [X, Y, Z]) v w' → K (a.put o.dst v) w') : Oper.wp P o a w K Q := by
  obtain ⟨s, w', h1, h2, h3⟩ := L.b3 X Y Z _ _ _ w hx hy hz
  unfold Oper.wp
  have : (execOp a.eval o).run P w = .ok (.value s) w' := by simp [execOp, ho, Act.eval, h1, Result.andThen, -Array.getD_eq_getD_getElem?]
  rw [this]
  exact hK _ w' h3 h2
include L in
theorem st_all {o : Oper} {x y : Nat} {X : E} {xs : List E} {ts : Array TypeId} (ho : o.op = .call { callee := .value (.func fA), args := #[.tmp x, .tmp y], argTypes := ts }) (hx : kdVal Rep RepS T (.R X) (a.tmps.getD x undef) w) (hy : kdVal Rep RepS T (.S xs) (a.tmps.getD y undef) w)
    (hK : ∀ v w', Below w.heap.size w w' → kdVal Rep RepS T (.R (xs.foldl jn X)) v w' → K (a.put o.dst v) w') : Oper.wp P o a w K Q := by
  unfold Oper.wp
  have : (execOp a.eval o).run P w = .ok (.enter fA #[a.tmps.getD x undef, a.tmps.getD y undef]) w := by simp [execOp, ho, Act.eval, resolve, Deferred.ofValue, invoke, L.cA, -Array.getD_eq_getD_getElem?]
  rw [this]
  refine (L.all X xs _ _ w hx hy).mono fun e w' ⟨r, he, h1, h2⟩ => ?_
  subst he
  exact hK r w' h2 h1

include L in
theorem lat_region (h1 : sm (jn A B) (jn B A) = true) (h2 : sm (jn A A) A = true) (h3 : sm (jn (jn A B) C) (jn A (jn B C)) = true) (h4 : sm ([B, C].foldl jn A) ([A, B, A].foldl jn C) = true)
    (hm : P.follows .mixedOrders = true) (ba bb bc : Nat) (W : World)
    (hA : ∀ w, Below W.heap.size W w → ∃ u, (Instr.loadAt T (.pointer (some ⟨ba, 0, none⟩))).run P w = .ok u w ∧ Rep A u w)
    (hB : ∀ w, Below W.heap.size W w → ∃ u, (Instr.loadAt T (.pointer (some ⟨bb, 0, none⟩))).run P w = .ok u w ∧ Rep B u w)
    (hC : ∀ w, Below W.heap.size W w → ∃ u, (Instr.loadAt T (.pointer (some ⟨bc, 0, none⟩))).run P w = .ok u w ∧ Rep C u w)
    (a0 : Act) (e3 : a0.tmps.getD 3 undef = .pointer (some ⟨ba, 0, none⟩)) (e4 : a0.tmps.getD 4 undef = .pointer (some ⟨bb, 0, none⟩)) (e5 : a0.tmps.getD 5 undef = .pointer (some ⟨bc, 0, none⟩)) (hsz : a0.tmps.size = 59)
    (hQ : ∀ a w, Below W.heap.size W w → a.defers = a0.defers → a.tmps.getD 6 undef = .bool true → Q .normal a w) :
    (Code.region 1 (latOps T TS fA) true).wp P Q a0 W := by
  have h53 : (latOps T TS fA).size = 53 := rfl
  refine wp_region_grow hm (latVal Rep RepS jn T A B C) (fun j v w w' => ?_) (fun j => latSlots.getD j 0) (fun j o ho => ?_) (fun i j hi hj => ?_) (fun j hj => ?_) (fun i o ho => ?_) (fun i o a w ho hBw hfr hd K hK => ?_) (fun a w hb hdf _ hv => ?_)
  · unfold latVal
    cases (latKd jn A B C).getD j .B with
    | R x => exact fun h hb => L.stab x v w w' h hb
    | F x => exact fun ⟨u, h, h'⟩ hb => ⟨u, h, L.stab x u w w' h' hb⟩
    | S xs => exact fun h hb => L.stabS xs v w w' h hb
    | B => exact fun h _ => h
  · have hj := (Array.getElem?_eq_some_iff.1 ho).1
    rw [h53] at hj
    have := lat_dst (T := T) (TS := TS) (fA := fA) j hj
    rw [ho] at this
    exact this
  · rw [h53] at hi hj
    have hn : latSlots.Nodup := by decide
    have hl : latSlots.length = 53 := rfl
    intro e
    simp only [List.getD_eq_getElem?_getD, List.getElem?_eq_getElem (hl ▸ hi : i < latSlots.length), List.getElem?_eq_getElem (hl ▸ hj : j < latSlots.length), Option.getD_some] at e
    exact nodup_inj hn (hl ▸ hi : i < latSlots.length) (hl ▸ hj : j < latSlots.length) e
  · rw [h53] at hj
    rw [hsz]
    have : ∀ x ∈ latSlots, x < 59 := by decide
    have hl : latSlots.length = 53 := rfl
    simp only [List.getD_eq_getElem?_getD, List.getElem?_eq_getElem (hl ▸ hj : j < latSlots.length), Option.getD_some]
    exact this _ (List.getElem_mem _)
  · have hj := (Array.getElem?_eq_some_iff.1 ho).1
    rw [h53] at hj
    match i, hj, ho with
    | 0, _, ho =>
      obtain rfl := Option.some.inj ho
      exact back_of (by kernel_rfl)
    | 1, _, ho =>
      obtain rfl := Option.some.inj ho
      exact back_of (by kernel_rfl)
    | 2, _, ho =>
      obtain rfl := Option.some.inj ho
      exact back_of (by kernel_rfl)
    | 3, _, ho =>
      obtain rfl := Option.some.inj ho
      exact back_of (by kernel_rfl)
    | 4, _, ho =>
      obtain rfl := Option.some.inj ho
      exact back_of (by kernel_rfl)
    | 5, _, ho =>
      obtain rfl := Option.some.inj ho
      exact back_of (by kernel_rfl)
    | 6, _, ho =>
      obtain rfl := Option.some.inj ho
      exact back_of (by kernel_rfl)
    | 7, _, ho =>
      obtain rfl := Option.some.inj ho
      exact back_of (by kernel_rfl)
    | 8, _, ho =>
      obtain rfl := Option.some.inj ho
      exact back_of (by kernel_rfl)
    | 9, _, ho =>
      obtain rfl := Option.some.inj ho
      exact back_of (by kernel_rfl)
    | 10, _, ho =>
      obtain rfl := Option.some.inj ho
      exact back_of (by kernel_rfl)
    | 11, _, ho =>
      obtain rfl := Option.some.inj ho
      exact back_of (by kernel_rfl)
    | 12, _, ho =>
      obtain rfl := Option.some.inj ho
      exact back_of (by kernel_rfl)
    | 13, _, ho =>
      obtain rfl := Option.some.inj ho
      exact back_of (by kernel_rfl)
    | 14, _, ho =>
      obtain rfl := Option.some.inj ho
      exact back_of (by kernel_rfl)
    | 15, _, ho =>
      obtain rfl := Option.some.inj ho
      exact back_of (by kernel_rfl)
    | 16, _, ho =>
      obtain rfl := Option.some.inj ho
      exact back_of (by kernel_rfl)
    | 17, _, ho =>
      obtain rfl := Option.some.inj ho
      exact back_of (by kernel_rfl)
    | 18, _, ho =>
      obtain rfl := Option.some.inj ho
      exact back_of (by kernel_rfl)
    | 19, _, ho =>
      obtain rfl := Option.some.inj ho
      exact back_of (by kernel_rfl)
    | 20, _, ho =>
      obtain rfl := Option.some.inj ho
      exact back_of (by kernel_rfl)
    | 21, _, ho =>
      obtain rfl := Option.some.inj ho
      exact back_of (by kernel_rfl)
    | 22, _, ho =>
      obtain rfl := Option.some.inj ho
      exact back_of (by kernel_rfl)
    | 23, _, ho =>
      obtain rfl := Option.some.inj ho
      exact back_of (by kernel_rfl)
    | 24, _, ho =>
      obtain rfl := Option.some.inj ho
      exact back_of (by kernel_rfl)
    | 25, _, ho =>
      obtain rfl := Option.some.inj ho
      exact back_of (by kernel_rfl)
    | 26, _, ho =>
      obtain rfl := Option.some.inj ho
      exact back_of (by kernel_rfl)
    | 27, _, ho =>
      obtain rfl := Option.some.inj ho
      exact back_of (by kernel_rfl)
    | 28, _, ho =>
      obtain rfl := Option.some.inj ho
      exact back_of (by kernel_rfl)
    | 29, _, ho =>
      obtain rfl := Option.some.inj ho
      exact back_of (by kernel_rfl)
    | 30, _, ho =>
      obtain rfl := Option.some.inj ho
      exact back_of (by kernel_rfl)
    | 31, _, ho =>
      obtain rfl := Option.some.inj ho
      exact back_of (by kernel_rfl)
    | 32, _, ho =>
      obtain rfl := Option.some.inj ho
      exact back_of (by kernel_rfl)
    | 33, _, ho =>
      obtain rfl := Option.some.inj ho
      exact back_of (by kernel_rfl)
    | 34, _, ho =>
      obtain rfl := Option.some.inj ho
      exact back_of (by kernel_rfl)
    | 35, _, ho =>
      obtain rfl := Option.some.inj ho
      exact back_of (by kernel_rfl)
    | 36, _, ho =>
      obtain rfl := Option.some.inj ho
      exact back_of (by kernel_rfl)
    | 37, _, ho =>
      obtain rfl := Option.some.inj ho
      exact back_of (by kernel_rfl)
    | 38, _, ho =>
      obtain rfl := Option.some.inj ho
      exact back_of (by kernel_rfl)
    | 39, _, ho =>
      obtain rfl := Option.some.inj ho
      exact back_of (by kernel_rfl)
    | 40, _, ho =>
      obtain rfl := Option.some.inj ho
      exact back_of (by kernel_rfl)
    | 41, _, ho =>
      obtain rfl := Option.some.inj ho
      exact back_of (by kernel_rfl)
    | 42, _, ho =>
      obtain rfl := Option.some.inj ho
      exact back_of (by kernel_rfl)
    | 43, _, ho =>
      obtain rfl := Option.some.inj ho
      exact back_of (by kernel_rfl)
    | 44, _, ho =>
      obtain rfl := Option.some.inj ho
      exact back_of (by kernel_rfl)
    | 45, _, ho =>
      obtain rfl := Option.some.inj ho
      exact back_of (by kernel_rfl)
    | 46, _, ho =>
      obtain rfl := Option.some.inj ho
      exact back_of (by kernel_rfl)
    | 47, _, ho =>
      obtain rfl := Option.some.inj ho
      exact back_of (by kernel_rfl)
    | 48, _, ho =>
      obtain rfl := Option.some.inj ho
      exact back_of (by kernel_rfl)
    | 49, _, ho =>
      obtain rfl := Option.some.inj ho
      exact back_of (by kernel_rfl)
    | 50, _, ho =>
      obtain rfl := Option.some.inj ho
      exact back_of (by kernel_rfl)
    | 51, _, ho =>
      obtain rfl := Option.some.inj ho
      exact back_of (by kernel_rfl)
    | 52, _, ho =>
      obtain rfl := Option.some.inj ho
      exact back_of (by kernel_rfl)
    | n + 53, h, _ => omega
  · have f3 : a.tmps.getD 3 undef = .pointer (some ⟨ba, 0, none⟩) := (hfr 3 (fun j hj => by rw [h53] at hj; exact slot_ne 3 (by decide) j hj)).trans e3
    have f4 : a.tmps.getD 4 undef = .pointer (some ⟨bb, 0, none⟩) := (hfr 4 (fun j hj => by rw [h53] at hj; exact slot_ne 4 (by decide) j hj)).trans e4
    have f5 : a.tmps.getD 5 undef = .pointer (some ⟨bc, 0, none⟩) := (hfr 5 (fun j hj => by rw [h53] at hj; exact slot_ne 5 (by decide) j hj)).trans e5
    have hj := (Array.getElem?_eq_some_iff.1 ho).1
    rw [h53] at hj
    have gd : ∀ (j : Nat) (o' : Oper), j < 53 → o'.guard = some (j, true) → a.tmps.getD (latSlots.getD j 0) undef = .bool true → Region.wanted o' (yielded (latOps T TS fA) a.tmps) = true := by
      intro j o' hj' hg hv
      unfold Region.wanted
      rw [hg]
      simp only
      rw [yield_true (d := latSlots.getD j 0) (lat_dst j hj') hv]
      rfl
    match i, hj, ho with
    | 0, _, ho =>
      have e : o = ({ dst := some 7, op := Op.load T (Operand.tmp 3), type := T, pos := "mixed.go:420", after := #[], guard := none } : Oper) := (Option.some.inj ho).symm
      subst e
      rw [if_pos (show Region.wanted _ _ = true from rfl)]
      exact st_load Rep RepS rfl f3 (hA w hBw) hK
    | 1, _, ho =>
      have e : o = ({ dst := some 8, op := Op.makeInterface T (Operand.tmp 7), type := 20, pos := "mixed.go:420", after := #[{ on := 0, ground := Ground.data }], guard := none } : Oper) := (Option.some.inj ho).symm
      subst e
      rw [if_pos (show Region.wanted _ _ = true from rfl)]
      exact st_iface Rep RepS jn sm L rfl (hd ⟨0, .data⟩ (by simp) rfl) hK
    | 2, _, ho =>
      have e : o = ({ dst := some 9, op := Op.load T (Operand.tmp 4), type := T, pos := "mixed.go:420", after := #[], guard := none } : Oper) := (Option.some.inj ho).symm
      subst e
      rw [if_pos (show Region.wanted _ _ = true from rfl)]
      exact st_load Rep RepS rfl f4 (hB w hBw) hK
    | 3, _, ho =>
      have e : o = ({ dst := some 10, op := Op.call { callee := Callee.invoke (Operand.tmp 8) "Join", args := #[Operand.tmp 9], argTypes := #[T] }, type := T, pos := "mixed.go:420", after := #[{ on := 1, ground := Ground.data }, { on := 2, ground := Ground.data }], guard := none } : Oper) := (Option.some.inj ho).symm
      subst e
      rw [if_pos (show Region.wanted _ _ = true from rfl)]
      exact st_join Rep RepS jn sm L rfl (hd ⟨1, .data⟩ (by simp) rfl) (hd ⟨2, .data⟩ (by simp) rfl) hK
    | 4, _, ho =>
      have e : o = ({ dst := some 11, op := Op.makeInterface T (Operand.tmp 10), type := 20, pos := "mixed.go:420", after := #[{ on := 3, ground := Ground.data }], guard := none } : Oper) := (Option.some.inj ho).symm
      subst e
      rw [if_pos (show Region.wanted _ _ = true from rfl)]
      exact st_iface Rep RepS jn sm L rfl (hd ⟨3, .data⟩ (by simp) rfl) hK
    | 5, _, ho =>
      have e : o = ({ dst := some 12, op := Op.load T (Operand.tmp 4), type := T, pos := "mixed.go:420", after := #[], guard := none } : Oper) := (Option.some.inj ho).symm
      subst e
      rw [if_pos (show Region.wanted _ _ = true from rfl)]
      exact st_load Rep RepS rfl f4 (hB w hBw) hK
    | 6, _, ho =>
      have e : o = ({ dst := some 13, op := Op.makeInterface T (Operand.tmp 12), type := 20, pos := "mixed.go:420", after := #[{ on := 5, ground := Ground.data }], guard := none } : Oper) := (Option.some.inj ho).symm
      subst e
      rw [if_pos (show Region.wanted _ _ = true from rfl)]
      exact st_iface Rep RepS jn sm L rfl (hd ⟨5, .data⟩ (by simp) rfl) hK
    | 7, _, ho =>
      have e : o = ({ dst := some 14, op := Op.load T (Operand.tmp 3), type := T, pos := "mixed.go:420", after := #[], guard := none } : Oper) := (Option.some.inj ho).symm
      subst e
      rw [if_pos (show Region.wanted _ _ = true from rfl)]
      exact st_load Rep RepS rfl f3 (hA w hBw) hK
    | 8, _, ho =>
      have e : o = ({ dst := some 15, op := Op.call { callee := Callee.invoke (Operand.tmp 13) "Join", args := #[Operand.tmp 14], argTypes := #[T] }, type := T, pos := "mixed.go:420", after := #[{ on := 6, ground := Ground.data }, { on := 7, ground := Ground.data }, { on := 3, ground := Ground.chain }], guard := none } : Oper) := (Option.some.inj ho).symm
      subst e
      rw [if_pos (show Region.wanted _ _ = true from rfl)]
      exact st_join Rep RepS jn sm L rfl (hd ⟨6, .data⟩ (by simp) rfl) (hd ⟨7, .data⟩ (by simp) rfl) hK
    | 9, _, ho =>
      have e : o = ({ dst := some 16, op := Op.call { callee := Callee.invoke (Operand.tmp 11) "Same", args := #[Operand.tmp 15], argTypes := #[T] }, type := 4, pos := "mixed.go:420", after := #[{ on := 4, ground := Ground.data }, { on := 8, ground := Ground.data }, { on := 8, ground := Ground.chain }], guard := none } : Oper) := (Option.some.inj ho).symm
      subst e
      rw [if_pos (show Region.wanted _ _ = true from rfl)]
      exact st_same Rep RepS jn sm L rfl h1 (hd ⟨4, .data⟩ (by simp) rfl) (hd ⟨8, .data⟩ (by simp) rfl) hK
    | 10, _, ho =>
      have e : o = ({ dst := some 17, op := Op.move (Operand.tmp 16), type := 4, pos := "mixed.go:420", after := #[{ on := 9, ground := Ground.data }, { on := 9, ground := Ground.chain }], guard := none } : Oper) := (Option.some.inj ho).symm
      subst e
      rw [if_pos (show Region.wanted _ _ = true from rfl)]
      exact st_move Rep RepS (.inl rfl) (hd ⟨9, .data⟩ (by simp) rfl) hK
    | 11, _, ho =>
      have e : o = ({ dst := some 18, op := Op.load T (Operand.tmp 3), type := T, pos := "mixed.go:420", after := #[{ on := 10, ground := Ground.guard }], guard := some (10, true) } : Oper) := (Option.some.inj ho).symm
      subst e
      refine if_of (gd 10 _ (by omega) rfl (hd ⟨10, .guard⟩ (by simp) rfl)) ?_
      exact st_load Rep RepS rfl f3 (hA w hBw) hK
    | 12, _, ho =>
      have e : o = ({ dst := some 19, op := Op.makeInterface T (Operand.tmp 18), type := 20, pos := "mixed.go:420", after := #[{ on := 11, ground := Ground.data }, { on := 10, ground := Ground.guard }], guard := some (10, true) } : Oper) := (Option.some.inj ho).symm
      subst e
      refine if_of (gd 10 _ (by omega) rfl (hd ⟨10, .guard⟩ (by simp) rfl)) ?_
      exact st_iface Rep RepS jn sm L rfl (hd ⟨11, .data⟩ (by simp) rfl) hK
    | 13, _, ho =>
      have e : o = ({ dst := some 20, op := Op.load T (Operand.tmp 3), type := T, pos := "mixed.go:420", after := #[{ on := 10, ground := Ground.guard }], guard := some (10, true) } : Oper) := (Option.some.inj ho).symm
      subst e
      refine if_of (gd 10 _ (by omega) rfl (hd ⟨10, .guard⟩ (by simp) rfl)) ?_
      exact st_load Rep RepS rfl f3 (hA w hBw) hK
    | 14, _, ho =>
      have e : o = ({ dst := some 21, op := Op.call { callee := Callee.invoke (Operand.tmp 19) "Join", args := #[Operand.tmp 20], argTypes := #[T] }, type := T, pos := "mixed.go:420", after := #[{ on := 12, ground := Ground.data }, { on := 13, ground := Ground.data }, { on := 10, ground := Ground.chain }, { on := 10, ground := Ground.guard }], guard := some (10, true) } : Oper) := (Option.some.inj ho).symm
      subst e
      refine if_of (gd 10 _ (by omega) rfl (hd ⟨10, .guard⟩ (by simp) rfl)) ?_
      exact st_join Rep RepS jn sm L rfl (hd ⟨12, .data⟩ (by simp) rfl) (hd ⟨13, .data⟩ (by simp) rfl) hK
    | 15, _, ho =>
      have e : o = ({ dst := some 22, op := Op.makeInterface T (Operand.tmp 21), type := 20, pos := "mixed.go:420", after := #[{ on := 14, ground := Ground.data }, { on := 10, ground := Ground.guard }], guard := some (10, true) } : Oper) := (Option.some.inj ho).symm
      subst e
      refine if_of (gd 10 _ (by omega) rfl (hd ⟨10, .guard⟩ (by simp) rfl)) ?_
      exact st_iface Rep RepS jn sm L rfl (hd ⟨14, .data⟩ (by simp) rfl) hK
    | 16, _, ho =>
      have e : o = ({ dst := some 23, op := Op.load T (Operand.tmp 3), type := T, pos := "mixed.go:420", after := #[{ on := 10, ground := Ground.guard }], guard := some (10, true) } : Oper) := (Option.some.inj ho).symm
      subst e
      refine if_of (gd 10 _ (by omega) rfl (hd ⟨10, .guard⟩ (by simp) rfl)) ?_
      exact st_load Rep RepS rfl f3 (hA w hBw) hK
    | 17, _, ho =>
      have e : o = ({ dst := some 24, op := Op.call { callee := Callee.invoke (Operand.tmp 22) "Same", args := #[Operand.tmp 23], argTypes := #[T] }, type := 4, pos := "mixed.go:420", after := #[{ on := 15, ground := Ground.data }, { on := 16, ground := Ground.data }, { on := 14, ground := Ground.chain }, { on := 10, ground := Ground.guard }], guard := some (10, true) } : Oper) := (Option.some.inj ho).symm
      subst e
      refine if_of (gd 10 _ (by omega) rfl (hd ⟨10, .guard⟩ (by simp) rfl)) ?_
      exact st_same Rep RepS jn sm L rfl h2 (hd ⟨15, .data⟩ (by simp) rfl) (hd ⟨16, .data⟩ (by simp) rfl) hK
    | 18, _, ho =>
      have e : o = ({ dst := some 25, op := Op.pick (Operand.tmp 17) (Operand.tmp 24) (Operand.const (Value.bool false)), type := 4, pos := "mixed.go:420", after := #[{ on := 10, ground := Ground.data }, { on := 17, ground := Ground.data }], guard := none } : Oper) := (Option.some.inj ho).symm
      subst e
      rw [if_pos (show Region.wanted _ _ = true from rfl)]
      exact st_pick Rep RepS rfl (hd ⟨10, .data⟩ (by simp) rfl) (hd ⟨17, .data⟩ (by simp) rfl) hK
    | 19, _, ho =>
      have e : o = ({ dst := some 26, op := Op.move (Operand.tmp 25), type := 4, pos := "mixed.go:420", after := #[{ on := 18, ground := Ground.data }, { on := 17, ground := Ground.chain }], guard := none } : Oper) := (Option.some.inj ho).symm
      subst e
      rw [if_pos (show Region.wanted _ _ = true from rfl)]
      exact st_move Rep RepS (.inl rfl) (hd ⟨18, .data⟩ (by simp) rfl) hK
    | 20, _, ho =>
      have e : o = ({ dst := some 27, op := Op.load T (Operand.tmp 3), type := T, pos := "mixed.go:420", after := #[{ on := 19, ground := Ground.guard }], guard := some (19, true) } : Oper) := (Option.some.inj ho).symm
      subst e
      refine if_of (gd 19 _ (by omega) rfl (hd ⟨19, .guard⟩ (by simp) rfl)) ?_
      exact st_load Rep RepS rfl f3 (hA w hBw) hK
    | 21, _, ho =>
      have e : o = ({ dst := some 28, op := Op.makeInterface T (Operand.tmp 27), type := 20, pos := "mixed.go:420", after := #[{ on := 20, ground := Ground.data }, { on := 19, ground := Ground.guard }], guard := some (19, true) } : Oper) := (Option.some.inj ho).symm
      subst e
      refine if_of (gd 19 _ (by omega) rfl (hd ⟨19, .guard⟩ (by simp) rfl)) ?_
      exact st_iface Rep RepS jn sm L rfl (hd ⟨20, .data⟩ (by simp) rfl) hK
    | 22, _, ho =>
      have e : o = ({ dst := some 29, op := Op.load T (Operand.tmp 4), type := T, pos := "mixed.go:420", after := #[{ on := 19, ground := Ground.guard }], guard := some (19, true) } : Oper) := (Option.some.inj ho).symm
      subst e
      refine if_of (gd 19 _ (by omega) rfl (hd ⟨19, .guard⟩ (by simp) rfl)) ?_
      exact st_load Rep RepS rfl f4 (hB w hBw) hK
    | 23, _, ho =>
      have e : o = ({ dst := some 30, op := Op.call { callee := Callee.invoke (Operand.tmp 28) "Join", args := #[Operand.tmp 29], argTypes := #[T] }, type := T, pos := "mixed.go:420", after := #[{ on := 21, ground := Ground.data }, { on := 22, ground := Ground.data }, { on := 19, ground := Ground.chain }, { on := 19, ground := Ground.guard }], guard := some (19, true) } : Oper) := (Option.some.inj ho).symm
      subst e
      refine if_of (gd 19 _ (by omega) rfl (hd ⟨19, .guard⟩ (by simp) rfl)) ?_
      exact st_join Rep RepS jn sm L rfl (hd ⟨21, .data⟩ (by simp) rfl) (hd ⟨22, .data⟩ (by simp) rfl) hK
    | 24, _, ho =>
      have e : o = ({ dst := some 31, op := Op.makeInterface T (Operand.tmp 30), type := 20, pos := "mixed.go:420", after := #[{ on := 23, ground := Ground.data }, { on := 19, ground := Ground.guard }], guard := some (19, true) } : Oper) := (Option.some.inj ho).symm
      subst e
      refine if_of (gd 19 _ (by omega) rfl (hd ⟨19, .guard⟩ (by simp) rfl)) ?_
      exact st_iface Rep RepS jn sm L rfl (hd ⟨23, .data⟩ (by simp) rfl) hK
    | 25, _, ho =>
      have e : o = ({ dst := some 32, op := Op.load T (Operand.tmp 5), type := T, pos := "mixed.go:420", after := #[{ on := 19, ground := Ground.guard }], guard := some (19, true) } : Oper) := (Option.some.inj ho).symm
      subst e
      refine if_of (gd 19 _ (by omega) rfl (hd ⟨19, .guard⟩ (by simp) rfl)) ?_
      exact st_load Rep RepS rfl f5 (hC w hBw) hK
    | 26, _, ho =>
      have e : o = ({ dst := some 33, op := Op.call { callee := Callee.invoke (Operand.tmp 31) "Join", args := #[Operand.tmp 32], argTypes := #[T] }, type := T, pos := "mixed.go:420", after := #[{ on := 24, ground := Ground.data }, { on := 25, ground := Ground.data }, { on := 23, ground := Ground.chain }, { on := 19, ground := Ground.guard }], guard := some (19, true) } : Oper) := (Option.some.inj ho).symm
      subst e
      refine if_of (gd 19 _ (by omega) rfl (hd ⟨19, .guard⟩ (by simp) rfl)) ?_
      exact st_join Rep RepS jn sm L rfl (hd ⟨24, .data⟩ (by simp) rfl) (hd ⟨25, .data⟩ (by simp) rfl) hK
    | 27, _, ho =>
      have e : o = ({ dst := some 34, op := Op.makeInterface T (Operand.tmp 33), type := 20, pos := "mixed.go:420", after := #[{ on := 26, ground := Ground.data }, { on := 19, ground := Ground.guard }], guard := some (19, true) } : Oper) := (Option.some.inj ho).symm
      subst e
      refine if_of (gd 19 _ (by omega) rfl (hd ⟨19, .guard⟩ (by simp) rfl)) ?_
      exact st_iface Rep RepS jn sm L rfl (hd ⟨26, .data⟩ (by simp) rfl) hK
    | 28, _, ho =>
      have e : o = ({ dst := some 35, op := Op.load T (Operand.tmp 3), type := T, pos := "mixed.go:420", after := #[{ on := 19, ground := Ground.guard }], guard := some (19, true) } : Oper) := (Option.some.inj ho).symm
      subst e
      refine if_of (gd 19 _ (by omega) rfl (hd ⟨19, .guard⟩ (by simp) rfl)) ?_
      exact st_load Rep RepS rfl f3 (hA w hBw) hK
    | 29, _, ho =>
      have e : o = ({ dst := some 36, op := Op.makeInterface T (Operand.tmp 35), type := 20, pos := "mixed.go:420", after := #[{ on := 28, ground := Ground.data }, { on := 19, ground := Ground.guard }], guard := some (19, true) } : Oper) := (Option.some.inj ho).symm
      subst e
      refine if_of (gd 19 _ (by omega) rfl (hd ⟨19, .guard⟩ (by simp) rfl)) ?_
      exact st_iface Rep RepS jn sm L rfl (hd ⟨28, .data⟩ (by simp) rfl) hK
    | 30, _, ho =>
      have e : o = ({ dst := some 37, op := Op.load T (Operand.tmp 4), type := T, pos := "mixed.go:420", after := #[{ on := 19, ground := Ground.guard }], guard := some (19, true) } : Oper) := (Option.some.inj ho).symm
      subst e
      refine if_of (gd 19 _ (by omega) rfl (hd ⟨19, .guard⟩ (by simp) rfl)) ?_
      exact st_load Rep RepS rfl f4 (hB w hBw) hK
    | 31, _, ho =>
      have e : o = ({ dst := some 38, op := Op.makeInterface T (Operand.tmp 37), type := 20, pos := "mixed.go:420", after := #[{ on := 30, ground := Ground.data }, { on := 19, ground := Ground.guard }], guard := some (19, true) } : Oper) := (Option.some.inj ho).symm
      subst e
      refine if_of (gd 19 _ (by omega) rfl (hd ⟨19, .guard⟩ (by simp) rfl)) ?_
      exact st_iface Rep RepS jn sm L rfl (hd ⟨30, .data⟩ (by simp) rfl) hK
    | 32, _, ho =>
      have e : o = ({ dst := some 39, op := Op.load T (Operand.tmp 5), type := T, pos := "mixed.go:420", after := #[{ on := 19, ground := Ground.guard }], guard := some (19, true) } : Oper) := (Option.some.inj ho).symm
      subst e
      refine if_of (gd 19 _ (by omega) rfl (hd ⟨19, .guard⟩ (by simp) rfl)) ?_
      exact st_load Rep RepS rfl f5 (hC w hBw) hK
    | 33, _, ho =>
      have e : o = ({ dst := some 40, op := Op.call { callee := Callee.invoke (Operand.tmp 38) "Join", args := #[Operand.tmp 39], argTypes := #[T] }, type := T, pos := "mixed.go:420", after := #[{ on := 31, ground := Ground.data }, { on := 32, ground := Ground.data }, { on := 26, ground := Ground.chain }, { on := 19, ground := Ground.guard }], guard := some (19, true) } : Oper) := (Option.some.inj ho).symm
      subst e
      refine if_of (gd 19 _ (by omega) rfl (hd ⟨19, .guard⟩ (by simp) rfl)) ?_
      exact st_join Rep RepS jn sm L rfl (hd ⟨31, .data⟩ (by simp) rfl) (hd ⟨32, .data⟩ (by simp) rfl) hK
    | 34, _, ho =>
      have e : o = ({ dst := some 41, op := Op.call { callee := Callee.invoke (Operand.tmp 36) "Join", args := #[Operand.tmp 40], argTypes := #[T] }, type := T, pos := "mixed.go:420", after := #[{ on := 29, ground := Ground.data }, { on := 33, ground := Ground.data }, { on := 33, ground := Ground.chain }, { on := 19, ground := Ground.guard }], guard := some (19, true) } : Oper) := (Option.some.inj ho).symm
      subst e
      refine if_of (gd 19 _ (by omega) rfl (hd ⟨19, .guard⟩ (by simp) rfl)) ?_
      exact st_join Rep RepS jn sm L rfl (hd ⟨29, .data⟩ (by simp) rfl) (hd ⟨33, .data⟩ (by simp) rfl) hK
    | 35, _, ho =>
      have e : o = ({ dst := some 42, op := Op.call { callee := Callee.invoke (Operand.tmp 34) "Same", args := #[Operand.tmp 41], argTypes := #[T] }, type := 4, pos := "mixed.go:420", after := #[{ on := 27, ground := Ground.data }, { on := 34, ground := Ground.data }, { on := 34, ground := Ground.chain }, { on := 19, ground := Ground.guard }], guard := some (19, true) } : Oper) := (Option.some.inj ho).symm
      subst e
      refine if_of (gd 19 _ (by omega) rfl (hd ⟨19, .guard⟩ (by simp) rfl)) ?_
      exact st_same Rep RepS jn sm L rfl h3 (hd ⟨27, .data⟩ (by simp) rfl) (hd ⟨34, .data⟩ (by simp) rfl) hK
    | 36, _, ho =>
      have e : o = ({ dst := some 43, op := Op.pick (Operand.tmp 26) (Operand.tmp 42) (Operand.const (Value.bool false)), type := 4, pos := "mixed.go:420", after := #[{ on := 19, ground := Ground.data }, { on := 35, ground := Ground.data }], guard := none } : Oper) := (Option.some.inj ho).symm
      subst e
      rw [if_pos (show Region.wanted _ _ = true from rfl)]
      exact st_pick Rep RepS rfl (hd ⟨19, .data⟩ (by simp) rfl) (hd ⟨35, .data⟩ (by simp) rfl) hK
    | 37, _, ho =>
      have e : o = ({ dst := some 44, op := Op.move (Operand.tmp 43), type := 4, pos := "mixed.go:420", after := #[{ on := 36, ground := Ground.data }, { on := 35, ground := Ground.chain }], guard := none } : Oper) := (Option.some.inj ho).symm
      subst e
      rw [if_pos (show Region.wanted _ _ = true from rfl)]
      exact st_move Rep RepS (.inl rfl) (hd ⟨36, .data⟩ (by simp) rfl) hK
    | 38, _, ho =>
      have e : o = ({ dst := some 45, op := Op.load T (Operand.tmp 3), type := T, pos := "mixed.go:420", after := #[{ on := 37, ground := Ground.guard }], guard := some (37, true) } : Oper) := (Option.some.inj ho).symm
      subst e
      refine if_of (gd 37 _ (by omega) rfl (hd ⟨37, .guard⟩ (by simp) rfl)) ?_
      exact st_load Rep RepS rfl f3 (hA w hBw) hK
    | 39, _, ho =>
      have e : o = ({ dst := some 46, op := Op.load T (Operand.tmp 4), type := T, pos := "mixed.go:420", after := #[{ on := 37, ground := Ground.guard }], guard := some (37, true) } : Oper) := (Option.some.inj ho).symm
      subst e
      refine if_of (gd 37 _ (by omega) rfl (hd ⟨37, .guard⟩ (by simp) rfl)) ?_
      exact st_load Rep RepS rfl f4 (hB w hBw) hK
    | 40, _, ho =>
      have e : o = ({ dst := some 47, op := Op.load T (Operand.tmp 5), type := T, pos := "mixed.go:420", after := #[{ on := 37, ground := Ground.guard }], guard := some (37, true) } : Oper) := (Option.some.inj ho).symm
      subst e
      refine if_of (gd 37 _ (by omega) rfl (hd ⟨37, .guard⟩ (by simp) rfl)) ?_
      exact st_load Rep RepS rfl f5 (hC w hBw) hK
    | 41, _, ho =>
      have e : o = ({ dst := some 48, op := Op.buildSlice TS 2 #[(0, Operand.tmp 46), (1, Operand.tmp 47)], type := TS, pos := "mixed.go:420", after := #[{ on := 39, ground := Ground.data }, { on := 40, ground := Ground.data }, { on := 37, ground := Ground.guard }], guard := some (37, true) } : Oper) := (Option.some.inj ho).symm
      subst e
      refine if_of (gd 37 _ (by omega) rfl (hd ⟨37, .guard⟩ (by simp) rfl)) ?_
      exact st_b2 Rep RepS jn sm L rfl (hd ⟨39, .data⟩ (by simp) rfl) (hd ⟨40, .data⟩ (by simp) rfl) hK
    | 42, _, ho =>
      have e : o = ({ dst := some 49, op := Op.call { callee := Callee.value (Operand.func fA), args := #[Operand.tmp 45, Operand.tmp 48], argTypes := #[T, TS] }, type := T, pos := "mixed.go:420", after := #[{ on := 38, ground := Ground.data }, { on := 41, ground := Ground.data }, { on := 37, ground := Ground.chain }, { on := 37, ground := Ground.guard }], guard := some (37, true) } : Oper) := (Option.some.inj ho).symm
      subst e
      refine if_of (gd 37 _ (by omega) rfl (hd ⟨37, .guard⟩ (by simp) rfl)) ?_
      exact st_all Rep RepS jn sm L rfl (hd ⟨38, .data⟩ (by simp) rfl) (hd ⟨41, .data⟩ (by simp) rfl) hK
    | 43, _, ho =>
      have e : o = ({ dst := some 50, op := Op.makeInterface T (Operand.tmp 49), type := 20, pos := "mixed.go:420", after := #[{ on := 42, ground := Ground.data }, { on := 37, ground := Ground.guard }], guard := some (37, true) } : Oper) := (Option.some.inj ho).symm
      subst e
      refine if_of (gd 37 _ (by omega) rfl (hd ⟨37, .guard⟩ (by simp) rfl)) ?_
      exact st_iface Rep RepS jn sm L rfl (hd ⟨42, .data⟩ (by simp) rfl) hK
    | 44, _, ho =>
      have e : o = ({ dst := some 51, op := Op.load T (Operand.tmp 5), type := T, pos := "mixed.go:420", after := #[{ on := 37, ground := Ground.guard }], guard := some (37, true) } : Oper) := (Option.some.inj ho).symm
      subst e
      refine if_of (gd 37 _ (by omega) rfl (hd ⟨37, .guard⟩ (by simp) rfl)) ?_
      exact st_load Rep RepS rfl f5 (hC w hBw) hK
    | 45, _, ho =>
      have e : o = ({ dst := some 52, op := Op.load T (Operand.tmp 3), type := T, pos := "mixed.go:420", after := #[{ on := 37, ground := Ground.guard }], guard := some (37, true) } : Oper) := (Option.some.inj ho).symm
      subst e
      refine if_of (gd 37 _ (by omega) rfl (hd ⟨37, .guard⟩ (by simp) rfl)) ?_
      exact st_load Rep RepS rfl f3 (hA w hBw) hK
    | 46, _, ho =>
      have e : o = ({ dst := some 53, op := Op.load T (Operand.tmp 4), type := T, pos := "mixed.go:420", after := #[{ on := 37, ground := Ground.guard }], guard := some (37, true) } : Oper) := (Option.some.inj ho).symm
      subst e
      refine if_of (gd 37 _ (by omega) rfl (hd ⟨37, .guard⟩ (by simp) rfl)) ?_
      exact st_load Rep RepS rfl f4 (hB w hBw) hK
    | 47, _, ho =>
      have e : o = ({ dst := some 54, op := Op.load T (Operand.tmp 3), type := T, pos := "mixed.go:420", after := #[{ on := 37, ground := Ground.guard }], guard := some (37, true) } : Oper) := (Option.some.inj ho).symm
      subst e
      refine if_of (gd 37 _ (by omega) rfl (hd ⟨37, .guard⟩ (by simp) rfl)) ?_
      exact st_load Rep RepS rfl f3 (hA w hBw) hK
    | 48, _, ho =>
      have e : o = ({ dst := some 55, op := Op.buildSlice TS 3 #[(0, Operand.tmp 52), (1, Operand.tmp 53), (2, Operand.tmp 54)], type := TS, pos := "mixed.go:420", after := #[{ on := 45, ground := Ground.data }, { on := 46, ground := Ground.data }, { on := 47, ground := Ground.data }, { on := 37, ground := Ground.guard }], guard := some (37, true) } : Oper) := (Option.some.inj ho).symm
      subst e
      refine if_of (gd 37 _ (by omega) rfl (hd ⟨37, .guard⟩ (by simp) rfl)) ?_
      exact st_b3 Rep RepS jn sm L rfl (hd ⟨45, .data⟩ (by simp) rfl) (hd ⟨46, .data⟩ (by simp) rfl) (hd ⟨47, .data⟩ (by simp) rfl) hK
    | 49, _, ho =>
      have e : o = ({ dst := some 56, op := Op.call { callee := Callee.value (Operand.func fA), args := #[Operand.tmp 51, Operand.tmp 55], argTypes := #[T, TS] }, type := T, pos := "mixed.go:420", after := #[{ on := 44, ground := Ground.data }, { on := 48, ground := Ground.data }, { on := 42, ground := Ground.chain }, { on := 37, ground := Ground.guard }], guard := some (37, true) } : Oper) := (Option.some.inj ho).symm
      subst e
      refine if_of (gd 37 _ (by omega) rfl (hd ⟨37, .guard⟩ (by simp) rfl)) ?_
      exact st_all Rep RepS jn sm L rfl (hd ⟨44, .data⟩ (by simp) rfl) (hd ⟨48, .data⟩ (by simp) rfl) hK
    | 50, _, ho =>
      have e : o = ({ dst := some 57, op := Op.call { callee := Callee.invoke (Operand.tmp 50) "Same", args := #[Operand.tmp 56], argTypes := #[T] }, type := 4, pos := "mixed.go:420", after := #[{ on := 43, ground := Ground.data }, { on := 49, ground := Ground.data }, { on := 49, ground := Ground.chain }, { on := 37, ground := Ground.guard }], guard := some (37, true) } : Oper) := (Option.some.inj ho).symm
      subst e
      refine if_of (gd 37 _ (by omega) rfl (hd ⟨37, .guard⟩ (by simp) rfl)) ?_
      exact st_same Rep RepS jn sm L rfl h4 (hd ⟨43, .data⟩ (by simp) rfl) (hd ⟨49, .data⟩ (by simp) rfl) hK
    | 51, _, ho =>
      have e : o = ({ dst := some 58, op := Op.pick (Operand.tmp 44) (Operand.tmp 57) (Operand.const (Value.bool false)), type := 4, pos := "mixed.go:420", after := #[{ on := 37, ground := Ground.data }, { on := 50, ground := Ground.data }], guard := none } : Oper) := (Option.some.inj ho).symm
      subst e
      rw [if_pos (show Region.wanted _ _ = true from rfl)]
      exact st_pick Rep RepS rfl (hd ⟨37, .data⟩ (by simp) rfl) (hd ⟨50, .data⟩ (by simp) rfl) hK
    | 52, _, ho =>
      have e : o = ({ dst := some 6, op := Op.assign (Operand.tmp 58), type := 4, pos := "mixed.go:420", after := #[{ on := 51, ground := Ground.data }, { on := 50, ground := Ground.chain }, { on := 0, ground := Ground.phase }, { on := 1, ground := Ground.phase }, { on := 2, ground := Ground.phase }, { on := 3, ground := Ground.phase }, { on := 4, ground := Ground.phase }, { on := 5, ground := Ground.phase }, { on := 6, ground := Ground.phase }, { on := 7, ground := Ground.phase }, { on := 8, ground := Ground.phase }, { on := 9, ground := Ground.phase }, { on := 10, ground := Ground.phase }, { on := 11, ground := Ground.phase }, { on := 12, ground := Ground.phase }, { on := 13, ground := Ground.phase }, { on := 14, ground := Ground.phase }, { on := 15, ground := Ground.phase }, { on := 16, ground := Ground.phase }, { on := 17, ground := Ground.phase }, { on := 18, ground := Ground.phase }, { on := 19, ground := Ground.phase }, { on := 20, ground := Ground.phase }, { on := 21, ground := Ground.phase }, { on := 22, ground := Ground.phase }, { on := 23, ground := Ground.phase }, { on := 24, ground := Ground.phase }, { on := 25, ground := Ground.phase }, { on := 26, ground := Ground.phase }, { on := 27, ground := Ground.phase }, { on := 28, ground := Ground.phase }, { on := 29, ground := Ground.phase }, { on := 30, ground := Ground.phase }, { on := 31, ground := Ground.phase }, { on := 32, ground := Ground.phase }, { on := 33, ground := Ground.phase }, { on := 34, ground := Ground.phase }, { on := 35, ground := Ground.phase }, { on := 36, ground := Ground.phase }, { on := 37, ground := Ground.phase }, { on := 38, ground := Ground.phase }, { on := 39, ground := Ground.phase }, { on := 40, ground := Ground.phase }, { on := 41, ground := Ground.phase }, { on := 42, ground := Ground.phase }, { on := 43, ground := Ground.phase }, { on := 44, ground := Ground.phase }, { on := 45, ground := Ground.phase }, { on := 46, ground := Ground.phase }, { on := 47, ground := Ground.phase }, { on := 48, ground := Ground.phase }, { on := 49, ground := Ground.phase }, { on := 50, ground := Ground.phase }, { on := 51, ground := Ground.phase }], guard := none } : Oper) := (Option.some.inj ho).symm
      subst e
      rw [if_pos (show Region.wanted _ _ = true from rfl)]
      exact st_move Rep RepS (.inr rfl) (hd ⟨51, .data⟩ (by simp) rfl) hK
    | n + 53, h, _ => omega
  · exact hQ a w hb hdf (hv 52 (by rw [h53]; omega))
end
end
end Go.Proofs.Ythphoiadhddggaa
