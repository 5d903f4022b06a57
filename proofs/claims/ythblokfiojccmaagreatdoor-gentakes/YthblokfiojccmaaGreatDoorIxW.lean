/-
  strings.IndexAny at the brackets, the comma and the blank, in any bytes.
-/
import Derived.Test.YthblokfiojccmaaGreatDoorIrW
import Derived.Lib.OthersKept
namespace Go.Proofs.YthblokfiojccmaaGreatDoor.Gn
open Go.RowKit Go.Shelf

/-- What is decoded at a byte beyond ASCII takes in such bytes alone. -/
theorem decode_hi (s : ByteArray) (pos : Nat) (h : pos < s.size) (ha : 128 ≤ (s[pos]'h).toNat) : ∀ k, k < (Utf8.decode s pos).2 → ∃ h' : pos + k < s.size, 128 ≤ (s[pos + k]'h').toNat := by
  have hn : ¬ (s[pos]'h).toNat < 128 := by omega
  have key : ∀ k, (decide (pos + k < s.size) && ((s.get! (pos + k)).toNat / 64 == 2)) = true → ∃ h' : pos + k < s.size, 128 ≤ (s[pos + k]'h').toNat := fun k hk => by
    rw [Bool.and_eq_true, decide_eq_true_eq, beq_iff_eq] at hk
    refine ⟨hk.1, ?_⟩
    have e : s.get! (pos + k) = s[pos + k]'hk.1 := get_at s (pos + k) hk.1
    rw [← e]
    omega
  have k0 : ∃ h' : pos + 0 < s.size, 128 ≤ (s[pos + 0]'h').toNat := ⟨h, ha⟩
  intro k hk
  simp only [Utf8.decode, get_at s pos h, hn, if_false] at hk
  split at hk
  · rename_i c
    simp only [Bool.and_eq_true] at c
    have k1 := key 1 (by rw [Bool.and_eq_true]; exact c.2)
    split at hk
    · match k, hk with
      | 0, _ => exact k0
      | 1, _ => exact k1
    · match k, hk with
      | 0, _ => exact k0
  · split at hk
    · rename_i c
      simp only [Bool.and_eq_true] at c
      have k1 := key 1 (by rw [Bool.and_eq_true]; exact c.1.2)
      have k2 := key 2 (by rw [Bool.and_eq_true]; exact c.2)
      split at hk
      · match k, hk with
        | 0, _ => exact k0
        | 1, _ => exact k1
        | 2, _ => exact k2
      · match k, hk with
        | 0, _ => exact k0
    · split at hk
      · rename_i c
        simp only [Bool.and_eq_true] at c
        have k1 := key 1 (by rw [Bool.and_eq_true]; exact c.1.1.2)
        have k2 := key 2 (by rw [Bool.and_eq_true]; exact c.1.2)
        have k3 := key 3 (by rw [Bool.and_eq_true]; exact c.2)
        split at hk
        · match k, hk with
          | 0, _ => exact k0
          | 1, _ => exact k1
          | 2, _ => exact k2
          | 3, _ => exact k3
        · match k, hk with
          | 0, _ => exact k0
      · match k, hk with
        | 0, _ => exact k0

theorem seps_ascii : ∀ b ∈ seps, b.toNat < 128 := by decide
theorem seps_no {x : UInt8} (h : 128 ≤ x.toNat) : seps.contains x = false := by
  cases e : seps.contains x with
  | false => rfl
  | true =>
    have := seps_ascii x (by simpa using e)
    omega
theorem noAny_more {l : Bt} : ∀ (n i : Nat), Lib.NoAny l seps i → (∀ k, k < n → ∃ x, l[i + k]? = some x ∧ 128 ≤ x.toNat) → Lib.NoAny l seps (i + n)
  | 0, _, h, _ => h
  | n + 1, i, h, hk => by
    obtain ⟨x, hx, h1⟩ := hk n (by omega)
    exact (noAny_more n i h (fun k hk' => hk k (by omega))).succ hx (seps_no h1)

set_option maxHeartbeats 8000000 in
set_option maxRecDepth 1000000 in
theorem indexAny_short (s : ByteArray) (w : World) (h8 : s.size ≤ 8) :
    Calls Tryz.prog 30 #[.string s, .string ⟨#[40, 41, 44, 32]⟩] w fun e w' => e = .returned (.int .i64 (Lib.indexAny s.data.toList seps)) ∧ Fr [] w w' := by
  have h8z : decide ((8 : Int) < (s.size : Int)) = false := decide_eq_false (by omega)
  have HU := hideIt (fun (n : Int) (W : World) => Any.strings_shouldUseASCIISet { gn_lays153 with } n W)
  have HR := hideIt (fun (r : Int) (W : World) (a : 0 ≤ r) (b : r < 128) => Any.strings_IndexRune_ascii { gn_lays153 with } ⟨#[40, 41, 44, 32]⟩ r W a b)
  go_enter Tryz.func30, Tryz.ntmps30
  go_wp2_with fail
  refine (HU.out _ _).mono ?_
  rintro e w' ⟨rfl, rfl⟩
  rw [h8z]
  go_wp2_with fail
  go_loopg [9, 10] s.size (fun g _ _ wx => ∃ i : Nat, i + g = s.size ∧ wx.heap[w'.heap.size]? = some (.stringIter s i) ∧ Fr [] w' wx ∧ Lib.NoAny s.data.toList seps i)
  case atStart => exact ⟨0, by omega, heap_new _ _, Fr.alloc _ _ _, Lib.NoAny.zero _ _⟩
  case round =>
    obtain ⟨i, hig, hit, hfr, hno⟩ := hrel
    have HN := hideIt hno
    have HF := hideIt hfr
    have HT := hideIt hit
    have hwr : w'.heap.size < wr.heap.size := (Array.getElem?_eq_some_iff.1 hit).1
    clear hno hfr
    cases gk with
    | zero =>
      obtain rfl : i = s.size := by omega
      have hnx := fun ty => Lib.run_next_end_at (P := Tryz.prog) wr _ s s.size ty hit (by omega)
      clear hit
      go_wp2
      go_ret
      exact ⟨by rw [Lib.indexAny_none (by rw [← Lib.size_eq]; exact HN.out)]; rfl, HF.out⟩
    | succ g =>
      have hi : i < s.size := by omega
      obtain ⟨x, hx⟩ : ∃ x : UInt8, s[i]'hi = x := ⟨_, rfl⟩
      have hxl : s.data.toList[i]? = some x := by rw [← hx]; exact Lib.data_getElem? s i hi
      have Hx := hideIt hxl
      clear hxl
      by_cases hx128 : x.toNat < 128
      · have hnx := fun ty => Lib.run_next_ascii_at (P := Tryz.prog) wr _ s i ty hit hi (by rw [hx]; exact hx128)
        rw [hx] at hnx
        have HI2 := hideIt (Lib.iterAt_heap wr _ s i (i + 1) hit)
        have HF2 : Hid (Fr [] w' (wr.iterAt w'.heap.size s (i + 1))) := ⟨HF.out.os, HF.out.tape, HF.out.output, by rw [Lib.iterAt_size]; exact HF.out.size, fun k hk hn => (Lib.iterAt_other wr _ k s _ (by omega)).trans (HF.out.block k hk hn)⟩
        have hcon := Lib.contains_iff_indexByte seps x
        have hback : ((x.toNat : Int)).toNat.toUInt8 = x := by simp
        have HR2 := hideIt (fun W => HR.out (x.toNat : Int) W (by omega) (by omega))
        rw [hback] at HR2
        clear HR hx hit hback
        generalize wr.iterAt w'.heap.size s (i + 1) = W2 at *
        cases hin : seps.contains x
        · rw [hin] at hcon
          have hlt : ¬ ((0 : Int) ≤ Lib.indexByte seps x) := of_decide_eq_false hcon.symm
          clear hcon
          change Hid (∀ W, Calls _ _ _ W fun e w' => e = .returned (.int .i64 (Lib.indexByte seps x)) ∧ w' = W) at HR2
          generalize Lib.indexByte seps x = ix at *
          go_wp2_with fail
          refine (HR2.out _).mono ?_
          rintro e w2 ⟨rfl, rfl⟩
          go_wp2
          go_roundg g
          case measure => omega
          case rel => exact ⟨i + 1, by omega, HI2.out, HF2.out, HN.out.succ Hx.out hin⟩
        · rw [hin] at hcon
          have hge : (0 : Int) ≤ Lib.indexByte seps x := of_decide_eq_true hcon.symm
          clear hcon
          change Hid (∀ W, Calls _ _ _ W fun e w' => e = .returned (.int .i64 (Lib.indexByte seps x)) ∧ w' = W) at HR2
          generalize Lib.indexByte seps x = ix at *
          go_wp2_with fail
          refine (HR2.out _).mono ?_
          rintro e w2 ⟨rfl, rfl⟩
          go_wp2
          go_ret
          exact ⟨by rw [Lib.indexAny_hit HN.out Hx.out hin]; rfl, HF2.out⟩
      · have hnx := fun ty => Lib.run_next_any_at (P := Tryz.prog) wr _ s i ty hit hi
        have hdh := decode_high s i hi (by rw [hx]; omega)
        have hdl := decode_le s i
        have hdk := decode_hi s i hi (by rw [hx]; omega)
        have HI2 := hideIt (Lib.iterAt_heap wr _ s i (i + (Utf8.decode s i).2) hit)
        have HF2 : Hid (Fr [] w' (wr.iterAt w'.heap.size s (i + (Utf8.decode s i).2))) := ⟨HF.out.os, HF.out.tape, HF.out.output, by rw [Lib.iterAt_size]; exact HF.out.size, fun k hk hn => (Lib.iterAt_other wr _ k s _ (by omega)).trans (HF.out.block k hk hn)⟩
        have hno2 : Lib.NoAny s.data.toList seps (i + (Utf8.decode s i).2) := noAny_more _ i HN.out (fun k hk => by
          obtain ⟨h', h2⟩ := hdk k hk
          exact ⟨_, Lib.data_getElem? s (i + k) h', h2⟩)
        have hn1 : 1 ≤ (Utf8.decode s i).2 := hdh.2
        have HNo := hideIt hno2
        have hsz2 : i + (Utf8.decode s i).2 ≤ s.size := by
          obtain ⟨h', _⟩ := hdk ((Utf8.decode s i).2 - 1) (by omega)
          omega
        have HRR := hideIt (fun W => indexRune_high (Utf8.decode s i).1 W hdh.1 hdl)
        clear HR hx hit hno2 hdk hdh hdl
        generalize wr.iterAt w'.heap.size s (i + (Utf8.decode s i).2) = W2 at *
        generalize (Utf8.decode s i).2 = dn at *
        generalize (Utf8.decode s i).1 = dr at *
        go_wp2_with fail
        refine (HRR.out _).mono ?_
        rintro e w2 ⟨rfl, hf2⟩
        have hsz3 : w'.heap.size < W2.heap.size := (Array.getElem?_eq_some_iff.1 HI2.out).1
        have HI3 := hideIt ((hf2.block _ hsz3 (by simp)).trans HI2.out)
        have HF3 := hideIt (HF2.out.trans hf2)
        clear hf2
        go_wp2
        go_roundg (s.size - (i + dn))
        case measure => omega
        case rel => exact ⟨i + dn, by omega, HI3.out, HF3.out, HNo.out⟩

/-- At any text of the reader's. -/
theorem indexAny_call (l : Bt) (w : World) (hl : l.length ≤ 3000) : Calls Tryz.prog 30 #[.string (ba l), .string ⟨#[40, 41, 44, 32]⟩] w fun e w' => e = .returned (.int .i64 (Lib.indexAny l seps)) ∧ Fr [] w w' := by
  by_cases h8 : (ba l).size ≤ 8
  · have := indexAny_short (ba l) w h8
    rw [ba_data] at this
    exact this
  · have := Any.strings_IndexAny_long gn_lays153 (fun w => by kernel_rfl) (by kernel_rfl) (ba l) ⟨#[40, 41, 44, 32]⟩ w (by decide) (by omega) (by rw [ba_size]; omega) (by decide) (fun j b hj => seps_ascii b (List.mem_of_getElem? hj))
    refine this.mono ?_
    rintro e w' ⟨rfl, rfl⟩
    refine ⟨by rw [ba_data]; rfl, ?_⟩
    exact (Fr.alloc [] w _).trans (Fr.alloc [] _ _)
end Go.Proofs.YthblokfiojccmaaGreatDoor.Gn
