/-
  What the library's functions tell the reader.
-/
import Derived.Test.YthblokfiojccmaaGreatDoorLsh
import Derived.Test.YthblokfiojccmaaGreatDoorRdM
namespace Go.Proofs.YthblokfiojccmaaGreatDoor.Gn
open Go.RowKit Go.Shelf

theorem ba_data (t : Bt) : (ba t).data.toList = t := by simp [ba]
theorem ba_size (t : Bt) : (ba t).size = t.length := by simp [ba, ByteArray.size]

theorem trimPrefix_call (t p : Bt) (w : World) : Calls Tryz.prog 40 #[.string (ba t), .string (ba p)] w fun e w' => e = .returned (.string (ba (Lib.trimPrefix t p))) ∧ w' = w := by
  have := Any.strings_TrimPrefix gn_lays101 (ba t) (ba p) w
  rw [ba_data, ba_data] at this
  exact this

def digs : Bt := [48, 49, 50, 51, 52, 53, 54, 55, 56, 57]
theorem digs_ascii : ∀ (j : Nat) b, (ba digs).data.toList[j]? = some b → b.toNat < 128 := by
  intro j b h
  rw [ba_data] at h
  have hm := List.mem_of_getElem? h
  have hall : ∀ b ∈ digs, b.toNat < 128 := by decide
  exact hall b hm
theorem trim_call (t : Bt) (w : World) (ht : t.length ≤ 3000) : Calls Tryz.prog 41 #[.string (ba t), .string (ba digs)] w fun e w' => e = .returned (.string (ba (Lib.trimS t digs))) ∧ Below w.heap.size w w' := by
  have := Any.strings_Trim_laid gn_lays160 (by kernel_rfl) (ba t) (ba digs) w (by rw [ba_size]; omega) (by rw [ba_size]; decide) digs_ascii
  rw [ba_data, ba_data] at this
  exact this

/-- The two errors of strconv's, as laid at the start. -/
structure ErrV (w : World) : Prop where
  rng : ∃ tp p, w.var? Tryz.prog "strconv.ErrRange" = some #[.iface tp p]
  syn : ∃ tp p, w.var? Tryz.prog "strconv.ErrSyntax" = some #[.iface tp p]

theorem fr_below {w w' : World} (h : Below w.heap.size w w') (X : List Nat) : Fr X w w' := ⟨h.os, h.tape, h.output, h.size, fun k hk _ => h.block k hk⟩

/-- What Atoi tells, of any text. -/
theorem atoi_call (t : Bt) (w : World) (ht : t.length ≤ 3000) (hv : ErrV w) : Calls Tryz.prog 32 #[.string (ba t)] w fun e w' => Fr [] w w' ∧
    ((∃ v, Lib.atoiAll t = .ok v ∧ e = .returned (.tuple #[.int .i64 v, .nilIface])) ∨ ((∀ v, Lib.atoiAll t ≠ .ok v) ∧ ∃ (n : Int) (T : TypeId) (x : Value), e = .returned (.tuple #[.int .i64 n, .iface T x]))) := by
  obtain ⟨⟨tp, p, h1⟩, ⟨tq, q, h2⟩⟩ := hv
  cases h : Lib.atoiAll t with
  | ok v =>
    have := Any.strconv_Atoi_ok gn_laysC172 (ba t) (by rw [ba_size]; omega) v (by rw [ba_data]; exact h) w
    refine this.mono ?_
    rintro e w' ⟨rfl, rfl | ⟨n, rfl⟩⟩
    · exact ⟨Fr.refl _ _, .inl ⟨v, rfl, rfl⟩⟩
    · exact ⟨fr_below (Lib.bytesWorld_below _ _ _) _, .inl ⟨v, rfl, rfl⟩⟩
  | «syntax» =>
    have := Any.strconv_Atoi_syntax_var gn_laysC172 (ba t) (by rw [ba_size]; omega) (by rw [ba_data]; exact h) tq q w h2
    refine this.mono ?_
    rintro e w' ⟨N, rfl, _, _, hb⟩
    exact ⟨fr_below hb _, .inr ⟨fun v h => by (cases h), _, _, _, rfl⟩⟩
  | range =>
    have := Any.strconv_Atoi_range_var gn_laysC172 (ba t) (by rw [ba_size]; omega) (by rw [ba_data]; exact h) tp p w h1
    refine this.mono ?_
    rintro e w' ⟨N, rfl, _, _, hb⟩
    exact ⟨fr_below hb _, .inr ⟨fun v h => by (cases h), _, _, _, rfl⟩⟩
end Go.Proofs.YthblokfiojccmaaGreatDoor.Gn
