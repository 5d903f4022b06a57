/-
  A number that is read, the words of a line: walked.
-/
import Derived.Test.YtbmnehnmmlfhdaaDoorTextW
namespace Go.Proofs.YtbmnehnmmlfhdaaDoor
open Go.RowKit Go.Lib

theorem below_bytes (w : World) (t : TypeId) (s : ByteArray) : Below w.heap.size w (Lib.bytesWorld w t s) := Lib.bytesWorld_below _ _ _
theorem below_grow (w : World) (k : Nat) (os : Array Obj) : Below w.heap.size w (Go.Sort.grow (w.drewN k) os) := by
  refine ⟨rfl, rfl, rfl, by simp [Go.Sort.grow, World.drewN], fun k hk => ?_⟩
  simp only [Go.Sort.grow, World.drewN]
  rw [Array.getElem?_append_left hk]

set_option maxHeartbeats 1000000 in
theorem number_any (n : Int) (h : -1000000 ≤ n ∧ n ≤ 1000000) (w : World) (hp : Pow w) (h9 : 2 ≤ w.heap.size) :
    Calls Tryd.prog 29 #[.string ⟨(Lib.itoa n).toArray⟩] w fun e w' => e = .returned (.tuple #[.int .i64 n, .bool true]) ∧ Below w.heap.size w w' := by
  have HP := hideIt hp
  have HI : Hid (∀ W, Calls Tryd.prog 41 #[.string ⟨(Lib.itoa n).toArray⟩, .int .i64 10, .int .i64 64] W fun e w' => e = .returned (.tuple #[.int .i64 n, .nilIface]) ∧ Below W.heap.size W w') := hideIt (fun W => by
    refine (sh_strconv_ParseInt_10_at64_ok ⟨(Lib.itoa n).toArray⟩ ?_ n ?_ W).mono ?_
    · have := itoa_len n h
      simp only [ByteArray.size, List.size_toArray]; omega
    · simpa using parse_itoa n h.1 h.2
    · rintro e w' ⟨rfl, rfl | ⟨t, rfl⟩⟩
      · exact ⟨rfl, Below.refl _ _⟩
      · exact ⟨rfl, below_bytes _ _ _⟩)
  have HF : Hid (∀ W, Below w.heap.size w W → Calls Tryd.prog 42 #[.int .i64 n, .int .i64 10] W fun e w' => e = .returned (.string ⟨(Lib.itoa n).toArray⟩) ∧ Below W.heap.size W w') := hideIt (fun W hW => by
    refine (sh_strconv_FormatInt_10 n (by omega) (by omega) W (HP.out.below hW h9)).mono ?_
    rintro e w' ⟨rfl, k, os, rfl⟩
    exact ⟨rfl, below_grow _ _ _⟩)
  clear hp
  go_enter Tryd.func29, Tryd.ntmps29
  go_wp2_with fail
  refine (HI.out _).mono ?_
  rintro x w1 ⟨rfl, hb1⟩
  have HB1 := hideIt hb1
  clear hb1
  go_wp2_with fail
  refine (HF.out _ HB1.out).mono ?_
  rintro x w2 ⟨rfl, hb2⟩
  have HB2 := hideIt (belJ HB1.out hb2)
  clear hb2
  go_wp2
  go_ret2
  exact ⟨rfl, HB2.out⟩

theorem blank_any (x : Nat) (W : World) : Calls Tryd.prog 28 #[encR x] W fun e w' => e = .returned (.bool (blankP x)) ∧ w' = W := by
  unfold encR
  go_enter Tryd.func28, Tryd.ntmps28
  go_wp2
  go_ret
  refine ⟨?_, rfl⟩
  show Ending.returned (.bool ((x : Int) == 32)) = Ending.returned (.bool (x == 32))
  have : ((x : Int) == 32) = (x == 32) := by rw [Bool.eq_iff_iff]; simp; omega
  rw [this]

set_option maxHeartbeats 1000000 in
theorem words_any (s : ByteArray) (w : World) (hs : s.size ≤ 4294967296) :
    Calls Tryd.prog 14 #[.string s] w fun e w' => ∃ A, e = .returned (.slice (some ⟨A, 0, none⟩) (Lib.goFieldsP blankP s).length (Lib.goFieldsP blankP s).length) ∧ w.heap.size ≤ A ∧
      w'.ownsRow w.heap.size 9 1 (.slice (some ⟨A, 0, none⟩) (Lib.goFieldsP blankP s).length (Lib.goFieldsP blankP s).length) (Lib.goFieldsP blankP s).length ((Lib.goFieldsP blankP s).map Value.string) ∧ Below w.heap.size w w' := by
  have HF := hideIt (sh_strings_FieldsFunc 28 #[] (enters_of (P := Tryd.prog) Tryd.func28 (by kernel_rfl) rfl) blankP s w hs (fun W x _ => (blank_any x W).mono (fun e w' h => ⟨h.1, 0, h.2⟩)))
  go_enter Tryd.func14, Tryd.ntmps14
  go_wp2_with fail
  refine HF.out.mono ?_
  rintro e w1 ⟨A, rfl, h1, h2, h3⟩
  have H2 := hideIt h2
  clear h2
  go_wp2
  go_ret
  exact ⟨A, rfl, h1, H2.out, h3⟩

end Go.Proofs.YtbmnehnmmlfhdaaDoor
