/-
  Chapter 15.2, walked: List.
-/
import Derived.Test.YthphoiadhddggaaDoorSoR
import Derived.Test.YthphoiadhddggaaDoorGrT
namespace Go.Proofs.YthphoiadhddggaaDoor
open Go.RowKit

theorem countP_more {α : Type} {p q : α → Bool} (hpq : ∀ y, p y = true → q y = true) {x : α} (hp : p x = false) (hq : q x = true) : ∀ {G : List α}, x ∈ G → G.countP p + 1 ≤ G.countP q
  | [], h => by cases h
  | y :: G, h => by
    have hmono : G.countP p ≤ G.countP q := List.countP_mono_left fun z _ hz => hpq z hz
    rw [List.countP_cons, List.countP_cons]
    by_cases e : y = x
    · subst e
      rw [if_neg (by rw [hp]; decide), if_pos hq]
      omega
    · have hx : x ∈ G := (List.mem_cons.1 h).resolve_left fun e' => e e'.symm
      have ih := countP_more hpq hp hq hx
      by_cases hy : p y = true
      · rw [if_pos hy, if_pos (hpq y hy)]; omega
      · rw [if_neg hy]; omega

/-- What List tells. -/
def ListTold (f : Th) (w : World) (e : Ending) (w' : World) : Prop := ∃ v zs, e = .returned v ∧ RowAt w' w.heap.size v zs ∧ zs.Pairwise (· < ·) ∧ (∀ x, x ∈ zs ↔ HasT f x) ∧ zs.length ≤ 10000 ∧ Below w.heap.size w w'

structure LInv (f : Th) (q : Option Nat) (G : List (Int × Int)) (w : World) (v : Value) (wr : World) (left : Int → Int → Bool) (L : List Int) : Prop where
  rg : RangeO Tryd.prog 63 mkM wr q (w.heap.size + 1) f left
  row : RowAt wr (w.heap.size + 2) v L
  snd : ∀ x, x ∈ L → HasT f x
  cpl : ∀ a b x, f a b = some ⟨x, false⟩ → left a b = false → x ∈ L
  len : L.length ≤ G.countP fun k => !left k.1 k.2
  bel : Below w.heap.size w wr
  sz : w.heap.size + 2 ≤ wr.heap.size

set_option maxRecDepth 100000 in
set_option maxHeartbeats 4000000 in
theorem list_any (f : Th) (hF : Few 10000 f) (q : Option Nat) (w : World) (hs : ThO w q f) :
    Calls Tryd.prog 15 #[.agg #[.map q]] w fun e w' => ListTold f w e w' := by
  have HS := hideIt hs
  have HLt := hideIt hs.lt
  obtain ⟨G, hGl, hGs⟩ := hF
  have HGl := hideIt hGl
  have HGs := hideIt hGs
  clear hs hGl hGs
  go_enter Tryd.func15, Tryd.ntmps15
  go_wp2_with (at_range; refine wpList_range_k _ pairK rfl _ _ rfl _ Tryd.underlying36 q f rfl (HS.out.bel (belA (Below.refl _ w) _)) ?_; intro w1 hr1 hg1 hs1)
  have HR1 := hideIt hr1
  have HB1 : Hid (Below w.heap.size w w1) := (belA (Below.refl _ w) (.cells #[.map q] 38)).grown hg1 (by simp only [World.size_alloc]; omega) (fun k hk => by cases hk)
  have HZ1 : Hid (w.heap.size + 2 ≤ w1.heap.size) := by
    show _ ≤ _
    have : w1.heap.size = w.heap.size + 2 := by simpa using hs1
    omega
  clear hr1 hg1 hs1
  simp only [World.size_alloc] at HR1 ⊢
  go_frame
  go_loopw [3] (fun v wr => ∃ (left : Int → Int → Bool) (L : List Int), LInv f q G w v wr left L) (fun _ wr => leftO wr q (w.heap.size + 1))
  case atStart => exact ⟨_, [], HR1.out, rowAt_nil _ _, fun _ h => absurd h (by simp), fun a b x h h' => (by rw [h] at h'; cases h'), Nat.zero_le _, HB1.out, HZ1.out⟩
  case round =>
    clear HR1 HB1 HZ1
    obtain ⟨left, L, hi⟩ := hrel
    have HI := hideIt hi
    have hrg := hi.rg
    clear hi
    obtain ⟨va, vc, rfl⟩ := HI.out.row.slice
    go_wp2_with (at_next; refine wpList_next_k _ pairK rfl _ rfl q (w.heap.size + 1) f left rfl hrg ?_ ?_)
    · intro hleft
      have HC : Hid (∀ x, x ∈ L ↔ HasT f x) := fun x => ⟨HI.out.snd x, fun ⟨a, b, h⟩ => HI.out.cpl a b x h (hleft a b)⟩
      have HLen : Hid (L.length ≤ 10000) := Nat.le_trans HI.out.len (Nat.le_trans List.countP_le_length HGl.out)
      clear hleft hrg
      have HRow := hideIt HI.out.row
      have HSz := hideIt HI.out.sz
      have HBe := hideIt HI.out.bel
      clear HI
      go_wp2_with fail
      refine (sort_row HRow.out (by have := HLen.out; omega)).mono ?_
      rintro e w2 ⟨rfl, hr2, hg2⟩
      have HR2 := hideIt hr2
      have HB2 : Hid (Below w.heap.size w w2) := HBe.out.grown hg2 (by have := HSz.out; omega) (fun k hk => by have := (HRow.out.lt k hk).1; omega)
      have HZ2 : Hid (w.heap.size + 2 ≤ w2.heap.size) := Nat.le_trans HSz.out hg2.size
      have HL2 : Hid ((L.mergeSort fun x y => decide (x ≤ y)).length ≤ 10000) := by
        show _ ≤ _
        rw [List.length_mergeSort]; exact HLen.out
      have HM2 : Hid (∀ x, x ∈ (L.mergeSort fun x y => decide (x ≤ y)) ↔ HasT f x) := fun x => by rw [List.mem_mergeSort]; exact HC.out x
      have HP2 := hideIt (sorted_of L)
      clear hr2 hg2 HRow HSz HBe
      rw [show L.length = (L.mergeSort fun x y => decide (x ≤ y)).length from (List.length_mergeSort _).symm] at HR2 ⊢
      generalize (L.mergeSort fun x y => decide (x ≤ y)) = L2 at HR2 HL2 HM2 HP2 ⊢
      go_wp2_with fail
      refine (comp_row HR2.out (by have := HL2.out; omega)).mono ?_
      rintro e w4 ⟨v4, rfl, hr4, hg4⟩
      have HR4 := hideIt hr4
      have HB4 : Hid (Below w.heap.size w w4) := HB2.out.grown hg4 (by have := HZ2.out; omega) (fun k hk => by have := (HR2.out.lt k hk).1; omega)
      clear hr4 hg4
      go_wp2
      go_ret
      obtain ⟨c1, c2⟩ := compact_rising HP2.out
      exact ⟨_, _, rfl, HR4.out.base (by omega), c1, fun x => (c2 x).trans (HM2.out x), Nat.le_trans (compact_le _) HL2.out, HB4.out⟩
    · intro x y v w3 hwf hfx hlx hrg3 hlt3 hg3 hs3 hen
      obtain ⟨v1, v2⟩ := v
      unfold pairV at hen
      have HFx := hideIt hfx
      have HLx := hideIt hlx
      have hsz := HI.out.sz
      have HZ3 : Hid (w.heap.size + 2 ≤ w3.heap.size) := Nat.le_trans hsz hg3.size
      have HB3 : Hid (Below w.heap.size w w3) := HI.out.bel.grown hg3 (by omega) (fun k hk => by cases hk; omega)
      have HRw3 : Hid (RowAt w3 (w.heap.size + 2) (.slice va L.length vc) L) := HI.out.row.kept hg3 (.inr fun e => by have := (HI.out.row.lt _ e).1; omega)
      have hr4 := hrg3.kept (World.grownBy_alloc w3 (.cells #[.int .i64 v1, .bool v2] 61) none) (fun _ _ => by simp) (by simp)
      have HR4 := hideIt hr4.1
      have HL4 : Hid (leftO (w3.alloc (.cells #[.int .i64 v1, .bool v2] 61)) q (w.heap.size + 1) < leftO wr q (w.heap.size + 1)) := by
        show _ < _
        rw [hr4.2]; exact hlt3
      have HB4 := hideIt (HB3.out.alloc HB3.out.size (.cells #[.int .i64 v1, .bool v2] 61))
      have HRw4 : Hid (RowAt (w3.alloc (.cells #[.int .i64 v1, .bool v2] 61)) (w.heap.size + 2) (.slice va L.length vc) L) := HRw3.out.new (World.grownBy_alloc w3 (.cells #[.int .i64 v1, .bool v2] 61) none)
      clear hg3 hs3 hrg hfx hlx hsz hrg3 hlt3 hr4 HB3 HRw3
      have HMono : Hid (G.countP (fun k => !left k.1 k.2) + 1 ≤ G.countP fun k => !(left k.1 k.2 && (!decide (k.1 = x) || !decide (k.2 = y)))) :=
        countP_more (x := (x, y)) (fun k hk => by simp at hk ⊢; simp [hk]) (by simp [HLx.out]) (by simp) (HGs.out x y (by rw [HFx.out]; rfl))
      cases v2 with
      | true =>
        go_wp2
        go_roundw
        case rel =>
          refine ⟨_, L, HR4.out, HRw4.out, HI.out.snd, fun a b z h h' => ?_, Nat.le_trans HI.out.len (by have := HMono.out; omega), HB4.out, by simp; have := HZ3.out; omega⟩
          by_cases hl : left a b = false
          · exact HI.out.cpl a b z h hl
          · exfalso
            have : a = x ∧ b = y := by
              simp at hl
              simpa [hl] using h'
            obtain ⟨rfl, rfl⟩ := this
            rw [HFx.out] at h
            cases h
        case measure => exact HL4.out
      | false =>
        have HRw5 := hideIt (HRw4.out.new (World.grownBy_alloc (w3.alloc (.cells #[.int .i64 v1, .bool false] 61)) (.cells #[.int .i64 v1] 3) none))
        have HB5 := hideIt (HB4.out.alloc HB4.out.size (.cells #[.int .i64 v1] 3))
        have hr5 := HR4.out.kept (World.grownBy_alloc (w3.alloc (.cells #[.int .i64 v1, .bool false] 61)) (.cells #[.int .i64 v1] 3) none) (fun _ _ => by simp) (by simp)
        have HR5 := hideIt hr5.1
        have HL5 : Hid (leftO ((w3.alloc (.cells #[.int .i64 v1, .bool false] 61)).alloc (.cells #[.int .i64 v1] 3)) q (w.heap.size + 1) < leftO wr q (w.heap.size + 1)) := by
          show _ < _
          rw [hr5.2]; exact HL4.out
        clear hr5 HR4 HL4 HB4 HRw4
        have HLen : Hid (L.length ≤ 10000) := Nat.le_trans HI.out.len (Nat.le_trans List.countP_le_length HGl.out)
        go_wp2_with (at_builtin; refine wpList_append_row rfl _ _ rfl (w.heap.size + 2) _ L rfl HRw5.out (w3.heap.size + 1) 1 v1 rfl ?c1 ?c2 ?c3 ?_)
        case c1 => simp
        case c2 => have := HLen.out; omega
        case c3 => simp; have := HZ3.out; omega
        intro v' w6 ht
        have hnq : ∀ M, q = some M → some M ≠ (Value.slice va L.length vc).ownBlock := fun M hM e => by
          have h1 := (HRw5.out.lt M e.symm).1
          have h2 := HLt.out M hM
          omega
        have hr6 := HR5.out.kept ht.grown hnq (fun e => by have h1 := (HRw5.out.lt _ e.symm).1; omega)
        have HR6 := hideIt hr6.1
        have HL6 : Hid (leftO w6 q (w.heap.size + 1) < leftO wr q (w.heap.size + 1)) := by
          show _ < _
          rw [hr6.2]; exact HL5.out
        have HRw6 := hideIt ht.row
        have HB6 : Hid (Below w.heap.size w w6) := HB5.out.grown ht.grown (by simp; have := HZ3.out; omega) (fun k hk => by have := (HRw5.out.lt k hk).1; omega)
        have HZ6 : Hid (w.heap.size + 2 ≤ w6.heap.size) := Nat.le_trans (by simp; have := HZ3.out; omega) ht.grown.size
        clear ht hr6 hnq HR5 HL5 HB5 HRw5
        go_wp2
        go_roundw
        case rel =>
          refine ⟨_, L ++ [v1], HR6.out, HRw6.out, fun z hz => ?_, fun a b z h h' => ?_, ?_, HB6.out, HZ6.out⟩
          · rcases List.mem_append.1 hz with hz | hz
            · exact HI.out.snd z hz
            · obtain rfl := List.mem_singleton.1 hz
              exact ⟨_, _, HFx.out⟩
          · by_cases hl : left a b = false
            · exact List.mem_append_left _ (HI.out.cpl a b z h hl)
            · have : a = x ∧ b = y := by
                simp at hl
                simpa [hl] using h'
              obtain ⟨rfl, rfl⟩ := this
              rw [HFx.out] at h
              cases h
              exact List.mem_append_right _ (List.mem_singleton.2 rfl)
          · rw [List.length_append]
            exact Nat.le_trans (Nat.add_le_add_right HI.out.len 1) HMono.out
        case measure => exact HL6.out
end Go.Proofs.YthphoiadhddggaaDoor
