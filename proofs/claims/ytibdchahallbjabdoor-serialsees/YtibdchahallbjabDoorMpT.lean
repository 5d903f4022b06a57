/-
  A map from steps (three numbers) to lists, in memory: what it tells of each; look, store, range, next.
-/
import Derived.Test.YtibdchahallbjabDoorMapVZ
import Derived.Test.YtibdchahallbjabDoorBsG
import Derived.DeepKeys4
import Derived.Maps.Keyed
namespace Go.Proofs.YtibdchahallbjabDoor
open Go.RowKit Go.WideMaps
open Go.Maps (Keyed IsMap)

def tripV (a b c : Int) : Value := .agg #[.int .i64 a, .int .i64 b, .int .i64 c]
/-- Numbers that may be a key. -/
def Wf3 (a b c : Int) : Prop := (Lit.int .i64 a).wf = true ∧ (Lit.int .i64 b).wf = true ∧ (Lit.int .i64 c).wf = true
theorem rowTrip : (62 : TypeId) < Tryd.prog.types.size := of_decide_eq_true (by kernel_rfl)
theorem cellsTrip : Tryd.prog.cellsOf 62 = 3 := by kernel_rfl
theorem cellsInt1 : Tryd.prog.cellsOf 3 = 1 := by kernel_rfl
theorem deepTrip : Tryd.prog.keyType 62 = true := by kernel_rfl
theorem wideTrip : (match Tryd.prog.underlying 62 with | some (.array _ _) | some (.struct _) => true | _ => false) = true := by kernel_rfl
theorem laidOutT : laidOutB Tryd.prog = true := by kernel_rfl
set_option maxRecDepth 100000 in
theorem keyedTrip : Keyed Tryd.prog 62 := Keyed.of_law (deep_law_laid laidOutT (m := 3) (by omega) rowTrip (by kernel_rfl) wideTrip)
theorem trip_some (a b c : Int) (h : Wf3 a b c) : (keyOf Tryd.prog 62 (tripV a b c)).isSome = true := by
  obtain ⟨n, hn⟩ : ∃ n, Tryd.prog.types.size = n := ⟨_, rfl⟩
  have hpos : (62 : Nat) < n := by rw [← hn]; exact rowTrip
  obtain ⟨m, rfl⟩ : ∃ m, n = m + 1 := ⟨n - 1, by omega⟩
  have e3 : ∀ m x, (Lit.int .i64 x).wf = true → Tryd.prog.keyLits (m + 1) 3 [.int .i64 x] = some [.int .i64 x] := fun m x hx => by
    unfold Program.keyLits
    rw [Tryd.underlying3]
    simp [hx]
  have e : Tryd.prog.keyLits (m + 1 + 1) 62 [.int .i64 a, .int .i64 b, .int .i64 c] = some [.int .i64 a, .int .i64 b, .int .i64 c] := by
    unfold Program.keyLits
    rw [Tryd.underlying62]
    simp [cellsTrip, cellsInt1, e3 m a h.1, e3 m b h.2.1, e3 m c h.2.2]
  have hf : (tripV a b c).formed Tryd.prog 62 = true := by
    unfold tripV
    simp [Value.formed, Tryd.underlying62, cellsTrip]
  unfold keyOf
  rw [Tryd.underlying62]
  simp only [deepTrip, hf, hn, Bool.and_self, if_true]
  rw [show (tripV a b c).cells.toList = [.int .i64 a, .int .i64 b, .int .i64 c] from rfl, e]
  rfl
noncomputable def tripL (a b c : Int) : Lit := (keyOf Tryd.prog 62 (tripV a b c)).getD (.bool true)
theorem trip_key {a b c : Int} (h : Wf3 a b c) : keyOf Tryd.prog 62 (tripV a b c) = some (tripL a b c) := by
  have := trip_some a b c h
  unfold tripL
  cases h : keyOf Tryd.prog 62 (tripV a b c)
  · rw [h] at this; cases this
  · rfl
theorem tripV_inj {a b c p q r : Int} (h : tripV a b c = tripV p q r) : a = p ∧ b = q ∧ c = r := by
  unfold tripV at h
  simp at h
  exact h
theorem tripL_inj {a b c p q r : Int} (h : Wf3 a b c) (h' : Wf3 p q r) (e : tripL a b c = tripL p q r) : a = p ∧ b = q ∧ c = r :=
  tripV_inj (keyedTrip.inj (trip_key h) (by rw [e]; exact trip_key h'))
set_option maxRecDepth 100000 in
theorem isKeyT {a b c : Int} (h : Wf3 a b c) : WideAt.IsKeyLit (tripL a b c) := keyedTrip.key (trip_key h)

/-- What it tells: of each key the block of its list. -/
def two (g : Nat) : Value := .slice (some ⟨g, 0, none⟩) 2 2
structure TellsT (D : DataW Value) (f : Int → Int → Int → Option Nat) : Prop where
  has : ∀ a b c, Wf3 a b c → Maps.has D (tripL a b c) = (f a b c).isSome
  at_ : ∀ a b c g, Wf3 a b c → f a b c = some g → ∀ z, D.atKey (tripL a b c) z = .held (two g)
  key : ∀ kl, Maps.has D kl = true → ∃ a b c, Wf3 a b c ∧ kl = tripL a b c
def MapT (w : World) (M n : Nat) (f : Int → Int → Int → Option Nat) : Prop :=
  ∃ D : DataW Value, w.ownsMap Tryd.prog 62 heldR M n D ∧ TellsT D f
def putT (f : Int → Int → Int → Option Nat) (a b c : Int) (g : Nat) : Int → Int → Int → Option Nat := fun p q r => if p = a ∧ q = b ∧ r = c then some g else f p q r
/-- A walk over it under way. -/
def RangeT (w : World) (M r n : Nat) (f : Int → Int → Int → Option Nat) (left : Int → Int → Int → Bool) : Prop :=
  ∃ (D : DataW Value) (lf : Lit → Bool) (cnt : Nat), w.ranges Tryd.prog 62 heldR M r n D lf cnt ∧ TellsT D f ∧ (∀ a b c, Wf3 a b c → lf (tripL a b c) = left a b c) ∧ (∀ kl, lf kl = true → Maps.has D kl = true)

section
variable {w : World} {M n : Nat} {f : Int → Int → Int → Option Nat}
theorem MapT.kept {w' : World} {row : Option Nat} (h : MapT w M n f) (hg : w.grownBy w' row) (hne : some M ≠ row) : MapT w' M n f := by
  obtain ⟨D, h1, h2⟩ := h
  exact ⟨D, h1.kept hg hne, h2⟩
theorem MapT.mono {n' : Nat} (h : MapT w M n f) (hn : n ≤ n') : MapT w M n' f := by
  obtain ⟨D, h1, h2⟩ := h
  exact ⟨D, h1.mono hn, h2⟩
theorem MapT.alloc (h : MapT w M n f) (o : Obj) : MapT (w.alloc o) M n f := h.kept (World.grownBy_alloc w o none) (by simp)
theorem MapT.lt (h : MapT w M n f) : M < w.heap.size := by
  obtain ⟨D, h1, _⟩ := h
  exact h1.lt
theorem MapT.below {B : Nat} {w' : World} (h : MapT w M n f) (hb : Below B w w') (hM : M < B) : MapT w' M n f := by
  obtain ⟨D, ⟨es, clock, hb1, F, hs, hD⟩, h2⟩ := h
  exact ⟨D, ⟨es, clock, (hb.block M hM).trans hb1, F, hs, hD⟩, h2⟩
theorem mapT_made (w : World) : MapT (w.alloc (.map #[] 0)) w.heap.size 0 (fun _ _ _ => none) :=
  ⟨_, World.ownsMap_made w Tryd.prog 62 heldR, fun _ _ _ _ => rfl, fun _ _ _ _ _ h => (by cases h), fun kl h => (by simp [Maps.has] at h)⟩
theorem zero29 (w : World) : (zeroValue 29).run Tryd.prog w = .ok (.slice none 0 0) w := by kernel_rfl
theorem MapT.look {a b c : Int} (h : MapT w M n f) (hk : Wf3 a b c) :
    (Instr.lookup 73 (.map (some M)) (tripV a b c) false).run Tryd.prog w = .ok (match f a b c with | some g => two g | none => .slice none 0 0) w := by
  obtain ⟨D, h1, h2⟩ := h
  obtain ⟨x, ps, hrun, hx⟩ := h1.lookup keyedTrip Tryd.underlying73 (zero29 w) (zd := .held (.slice none 0 0)) (zp := []) rfl (trip_key hk)
  rw [hrun]
  cases hf : f a b c with
  | none =>
    have hno : Maps.has D (tripL a b c) = false := by rw [h2.has a b c hk, hf]; rfl
    rw [Maps.atKey_of_not_has hno] at hx
    have := DataW.held.inj (congrArg Prod.fst (Option.some.inj hx))
    subst this; rfl
  | some g =>
    rw [h2.at_ a b c g hk hf] at hx
    have := DataW.held.inj (congrArg Prod.fst (Option.some.inj hx))
    subst this; rfl
set_option maxRecDepth 100000 in
theorem MapT.store {a b c : Int} (h : MapT w M n f) (hn : n < 1000) (hk : Wf3 a b c) (g : Nat) :
    ∃ w', (Instr.mapUpdate 73 (.map (some M)) (tripV a b c) (two g)).run Tryd.prog w = .ok () w' ∧ MapT w' M (n + 1) (putT f a b c g) ∧ w.grownBy w' (some M) := by
  obtain ⟨D, h1, h2⟩ := h
  obtain ⟨w', hrun, ho, ht'⟩ := h1.store (val := two g) keyedTrip Tryd.underlying73 (by unfold maxLen; omega) (trip_key hk) (d := .held (two g)) (ps := []) rfl
  refine ⟨w', hrun, ⟨_, ho, fun p q r hp => ?_, fun p q r g' hp hg z => ?_, fun kl hkl => ?_⟩, ht'.grown⟩
  · unfold putT
    by_cases e : p = a ∧ q = b ∧ r = c
    · obtain ⟨rfl, rfl, rfl⟩ := e
      rw [if_pos ⟨rfl, rfl, rfl⟩, Maps.has_put_same h1.isMap (isKeyT hk)]; rfl
    · rw [if_neg e, Maps.has_put_other (fun e' => e (tripL_inj hp hk e'))]; exact h2.has p q r hp
  · unfold putT at hg
    by_cases e : p = a ∧ q = b ∧ r = c
    · obtain ⟨rfl, rfl, rfl⟩ := e
      rw [if_pos ⟨rfl, rfl, rfl⟩] at hg
      obtain rfl := Option.some.inj hg
      exact Maps.atKey_put_same h1.isMap (isKeyT hk) _ z
    · rw [if_neg e] at hg
      rw [Maps.atKey_put_other (fun e' => e (tripL_inj hp hk e'))]; exact h2.at_ p q r g' hp hg z
  · by_cases e : kl = tripL a b c
    · exact ⟨a, b, c, hk, e⟩
    · rw [Maps.has_put_other e] at hkl
      exact h2.key kl hkl
theorem MapT.range (h : MapT w M n f) :
    ∃ w', (Instr.range 73 (.map (some M))).run Tryd.prog w = .ok (.pointer (some ⟨w.heap.size, 0, none⟩)) w' ∧ RangeT w' M w.heap.size n f (fun a b c => (f a b c).isSome) ∧ w.grownBy w' none ∧ w'.heap.size = w.heap.size + 1 ∧ w'.rangeLeft M w.heap.size ≤ n := by
  obtain ⟨D, h1, h2⟩ := h
  obtain ⟨w', hrun, hr, hg, hs⟩ := h1.range keyedTrip Tryd.underlying73
  exact ⟨w', hrun, ⟨D, _, _, hr, h2, h2.has, fun kl hq => hq⟩, hg, hs, by rw [hr.left_eq]; exact h1.size_le⟩
theorem RangeT.map {r : Nat} {left : Int → Int → Int → Bool} (h : RangeT w M r n f left) : MapT w M n f := by
  obtain ⟨D, lf, cnt, h1, h2, _⟩ := h
  exact ⟨D, h1.owns, h2⟩
theorem RangeT.kept {r : Nat} {left : Int → Int → Int → Bool} {w' : World} {row : Option Nat} (h : RangeT w M r n f left) (hg : w.grownBy w' row) (hb : some M ≠ row) (hr : some r ≠ row) : RangeT w' M r n f left ∧ w'.rangeLeft M r = w.rangeLeft M r := by
  obtain ⟨D, lf, cnt, h1, h2⟩ := h
  exact ⟨⟨D, lf, cnt, h1.kept hg hb hr, h2⟩, by rw [h1.left_eq, (h1.kept hg hb hr).left_eq]⟩
theorem RangeT.ltr {r : Nat} {left : Int → Int → Int → Bool} (h : RangeT w M r n f left) : r < w.heap.size := by
  obtain ⟨D, lf, cnt, h1, _⟩ := h
  exact h1.lt
set_option maxRecDepth 100000 in
theorem RangeT.next {r : Nat} {left : Int → Int → Int → Bool} (h : RangeT w M r n f left) (ty : TypeId) :
    ((∀ a b c, Wf3 a b c → left a b c = false) ∧ (Instr.next (.pointer (some ⟨r, 0, none⟩)) false ty).run Tryd.prog w = .ok (.tuple #[.bool false]) w) ∨
    ∃ (a b c : Int) (g : Nat) (w' : World), Wf3 a b c ∧ f a b c = some g ∧ left a b c = true ∧ (Instr.next (.pointer (some ⟨r, 0, none⟩)) false ty).run Tryd.prog w = .ok (.tuple #[.bool true, tripV a b c, two g]) w' ∧
      RangeT w' M r n f (fun p q s => left p q s && !decide (p = a ∧ q = b ∧ s = c)) ∧ w'.rangeLeft M r < w.rangeLeft M r ∧ w.grownBy w' (some r) ∧ w'.heap.size = w.heap.size ∧ (Instr.entry (.pointer (some ⟨r, 0, none⟩))).run Tryd.prog w' = .ok (.tuple #[tripV a b c, two g]) w' := by
  obtain ⟨D, lf, cnt, h1, h2, h4, h5⟩ := h
  rcases h1.next keyedTrip ty with ⟨_, hl, hrun⟩ | ⟨key, v, kl, y, w', cnt', hkey, hlk, hv, hat, hrun, hrg, hlt, hgr, hsz, hen⟩
  · exact .inl ⟨fun a b c hk => by rw [← h4 a b c hk]; exact hl _, hrun⟩
  · obtain ⟨a, b, c, hk, rfl⟩ := h2.key kl (h5 kl hlk)
    have ek : key = tripV a b c := keyedTrip.inj hkey (trip_key hk)
    subst ek
    have hx : left a b c = true := by rw [← h4 a b c hk]; exact hlk
    have hsm : (f a b c).isSome = true := by rw [← h2.has a b c hk]; exact h5 _ hlk
    obtain ⟨g, hg⟩ := Option.isSome_iff_exists.1 hsm
    have e1 := (hat (.held v)).symm.trans (h2.at_ a b c g hk hg _)
    have e2 : y.1 = .held v := (congrArg Prod.fst (Option.some.inj hv)).symm
    have e3 : v = two g := DataW.held.inj (e2.symm.trans e1)
    subst e3
    refine .inr ⟨a, b, c, g, w', hk, hg, hx, hrun, ⟨D, _, cnt', hrg, h2, fun p q s hp => ?_, fun kl' hq => ?_⟩, ?_, hgr, hsz, hen⟩
    · show (lf (tripL p q s) && !(tripL p q s).sameKey (tripL a b c)) = _
      rw [h4 p q s hp]
      congr 2
      by_cases e : p = a ∧ q = b ∧ s = c
      · obtain ⟨rfl, rfl, rfl⟩ := e
        rw [WideAt.sameKey_self (isKeyT hk)]; simp
      · rw [Maps.sameKey_ne (fun e' => e (tripL_inj hp hk e')), decide_eq_false e]
    · simp only [Bool.and_eq_true] at hq
      exact h5 kl' hq.1
    · rw [h1.left_eq, hrg.left_eq]; exact hlt
end

/-! ### at the operation, for the walk -/
section
variable (w : World) {ops : Array Oper} {rest : List Oper} {o : Oper} {a : Act} {Q : Exit → Act → World → Prop}
theorem wpList_range_t (hg : o.guard = none) (m : Operand) (hop : o.op = Op.range 73 m) (M n : Nat) (f : Int → Int → Int → Option Nat)
    (hm : a.eval m = .map (some M)) (h : MapT w M n f)
    (hK : ∀ w', RangeT w' M w.heap.size n f (fun a b c => (f a b c).isSome) → w.grownBy w' none → w'.heap.size = w.heap.size + 1 → w'.rangeLeft M w.heap.size ≤ n → wpList Tryd.prog ops Q rest (a.put o.dst (.pointer (some ⟨w.heap.size, 0, none⟩))) w') :
    wpList Tryd.prog ops Q (o :: rest) a w := by
  refine wpList_plain hg fun K' hK' => ?_
  obtain ⟨w', hrun, r1, r2, r3, r4⟩ := h.range
  unfold Oper.wp
  simp [execOp, hop, hm, hrun, Result.andThen]
  exact hK' _ _ (hK w' r1 r2 r3 r4)
theorem wpList_next_t (hg : o.guard = none) (it : Operand) (hop : o.op = Op.next it false) (M r n : Nat) (f : Int → Int → Int → Option Nat) (left : Int → Int → Int → Bool)
    (hit : a.eval it = .pointer (some ⟨r, 0, none⟩)) (h : RangeT w M r n f left)
    (hDone : (∀ a b c, Wf3 a b c → left a b c = false) → wpList Tryd.prog ops Q rest (a.put o.dst (.tuple #[.bool false])) w)
    (hMore : ∀ (p q s : Int) (g : Nat) (w' : World), Wf3 p q s → f p q s = some g → left p q s = true → RangeT w' M r n f (fun x y z => left x y z && !decide (x = p ∧ y = q ∧ z = s)) → w'.rangeLeft M r < w.rangeLeft M r →
      w.grownBy w' (some r) → w'.heap.size = w.heap.size → (Instr.entry (.pointer (some ⟨r, 0, none⟩))).run Tryd.prog w' = .ok (.tuple #[tripV p q s, two g]) w' → wpList Tryd.prog ops Q rest (a.put o.dst (.tuple #[.bool true, tripV p q s, two g])) w') :
    wpList Tryd.prog ops Q (o :: rest) a w := by
  refine wpList_plain hg fun K' hK' => ?_
  unfold Oper.wp
  rcases h.next o.type with ⟨hl, hrun⟩ | ⟨p, q, s, g, w', hk, hb, hx, hrun, hrg, hlt, hgr, hsz, hen⟩
  · simp [execOp, hop, hit, hrun, Result.andThen]
    exact hK' _ _ (hDone hl)
  · simp [execOp, hop, hit, hrun, Result.andThen]
    exact hK' _ _ (hMore p q s g w' hk hb hx hrg hlt hgr hsz hen)
end
end Go.Proofs.YtibdchahallbjabDoor
