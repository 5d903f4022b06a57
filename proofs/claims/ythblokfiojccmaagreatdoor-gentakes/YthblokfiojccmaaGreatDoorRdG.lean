/-
  The reader's signs.
-/
import Derived.Test.YthblokfiojccmaaGreatDoorRdF
import Derived.Test.YthblokfiojccmaaGreatDoorIxW
import Derived.Maps.AppendAt
namespace Go.Proofs.YthblokfiojccmaaGreatDoor.Gn
open Go.RowKit

set_option maxHeartbeats 4000000 in
theorem signSize_any (t : Bt) (w : World) (ht : t.length ≤ 2500) :
    Calls Tryz.prog 19 #[.string (ba t)] w fun e w' => e = .returned (.int .i64 ((sgLen t : Nat) : Int)) ∧ Fr [] w w' := by
  have HI := hideIt (indexAny_call t w (by omega))
  have hs : sgLen t = if Lib.indexAny t seps = -1 then t.length else if Lib.indexAny t seps = 0 then 1 else (Lib.indexAny t seps).toNat := rfl
  have hge : -1 ≤ Lib.indexAny t seps := Lib.indexAny_ge seps t
  have hsz := ba_size t
  generalize Lib.indexAny t seps = q at *
  rw [hs]
  clear hs
  by_cases h1 : q = -1
  · subst h1
    go_enter Tryz.func19, Tryz.ntmps19
    go_wp2_with fail
    refine HI.out.mono ?_
    rintro y w1 ⟨rfl, hf⟩
    go_wp2
    go_ret
    exact ⟨by rfl, hf⟩
  · by_cases h2 : q = 0
    · subst h2
      go_enter Tryz.func19, Tryz.ntmps19
      go_wp2_with fail
      refine HI.out.mono ?_
      rintro y w1 ⟨rfl, hf⟩
      go_wp2
      go_ret
      exact ⟨by rfl, hf⟩
    · go_enter Tryz.func19, Tryz.ntmps19
      go_wp2_with fail
      refine HI.out.mono ?_
      rintro y w1 ⟨rfl, hf⟩
      go_wp2
      go_ret
      exact ⟨by simp; omega, hf⟩

theorem indexAny_lt (chars : Bt) : ∀ l : Bt, Lib.indexAny l chars < l.length
  | [] => by simp [Lib.indexAny]
  | b :: l => by
    have ih := indexAny_lt chars l
    unfold Lib.indexAny
    simp only [List.length_cons]
    split
    · omega
    · split <;> omega
theorem sgLen_pos {l : Bt} (h : l ≠ []) : 1 ≤ sgLen l ∧ sgLen l ≤ l.length := by
  have h1 := Lib.indexAny_ge sepsP l
  have h2 := indexAny_lt sepsP l
  have h3 : 0 < l.length := List.length_pos_iff.2 h
  unfold sgLen
  split
  · omega
  · split <;> omega

/-- A text's part. -/
theorem ba_part (t : Bt) (a b : Nat) : (ba t).extract a b = ba ((t.drop a).take (b - a)) := by
  apply ByteArray.ext
  simp only [ba, ByteArray.data_extract]
  apply Array.ext'
  simp [List.extract_eq_take_drop]

/-- A sign's cells. -/
def sgC (s : Bt × Nat) : List Value := [.string (ba s.1), .int .i64 (s.2 : Nat)]
def sgCs (L : List (Bt × Nat)) : List Value := L.flatMap sgC
theorem sgCs_snoc (L : List (Bt × Nat)) (c : Bt × Nat) : sgCs (L ++ [c]) = sgCs L ++ sgC c := by simp [sgCs]
theorem infoSg : (Tryz.prog.info? 69).map (fun i => (i.zero, i.size, i.bytes)) = some (some (.agg #[.string ⟨#[]⟩, .int .i64 0]), 2, 24) := by kernel_rfl

theorem sgs_fuel : ∀ (n m : Nat) (l : Bt), l.length ≤ n → l.length ≤ m → sgs n l = sgs m l
  | 0, 0, _, _, _ => rfl
  | 0, m + 1, [], _, _ => rfl
  | n + 1, 0, [], _, _ => rfl
  | 0, _ + 1, _ :: _, h, _ => by simp at h
  | _ + 1, 0, _ :: _, _, h => by simp at h
  | n + 1, m + 1, [], _, _ => rfl
  | n + 1, m + 1, c :: l, h, h' => by
    have hp := sgLen_pos (l := c :: l) (by simp)
    simp only [List.length_cons] at h h' hp
    simp only [sgs]
    split
    · exact sgs_fuel n m l (by omega) (by omega)
    · rw [sgs_fuel n m _ (by simp; omega) (by simp; omega)]

/-- What signsOf tells. -/
structure SgTold (t : Bt) (w : World) (e : Ending) (w' : World) (S cap : Nat) (ps : List (Bt × Nat)) : Prop where
  ret : e = .returned (.slice (some ⟨S, 0, none⟩) ps.length cap)
  row : w'.ownsRow w.heap.size 69 2 (.slice (some ⟨S, 0, none⟩) ps.length cap) ps.length (sgCs ps)
  txt : ps.map (·.1) = sgs t.length t ++ [[]]
  below : Below w.heap.size w w'

theorem some_of_row {w : World} {base z : Nat} {ty : TypeId} {v : Value} {n : Nat} {us : List Value} (h : w.ownsRow base ty z v n us) : ∃ a c, v = .slice a n c := by
  rcases h.2 with ⟨e, e2⟩ | ⟨g, cap, cur, e, _⟩
  · exact ⟨none, 0, by rw [e, e2]⟩
  · exact ⟨_, _, e⟩

/-- Where the loop stands. -/
structure SgI (t : Bt) (w wx : World) (sl : Value) (ps : List (Bt × Nat)) (p : Nat) : Prop where
  row : wx.ownsRow w.heap.size 69 2 sl ps.length (sgCs ps)
  txt : sgs t.length t = ps.map (·.1) ++ sgs (t.length - p) (t.drop p)
  few : ps.length ≤ p
  le : p ≤ t.length
  below : Below w.heap.size w wx

set_option maxHeartbeats 8000000 in
set_option maxRecDepth 100000 in
theorem signsOf_any (t : Bt) (w : World) (ht : t.length ≤ 2000) :
    Calls Tryz.prog 12 #[.string (ba t)] w fun e w' => ∃ S cap ps, SgTold t w e w' S cap ps := by
  have hsz := ba_size t
  have hI : SgI t w w (.slice none 0 0) [] 0 := ⟨World.ownsRow_nil _ _ _ _, by simp, Nat.le_refl _, Nat.zero_le _, Below.refl _ _⟩
  have HI := hideIt hI
  obtain ⟨i0, hi, hz0, hz1, hz2⟩ := info_parts' infoSg
  clear hI
  go_enter Tryz.func12, Tryz.ntmps12
  go_wp2
  go_loopg [3, 4] t.length (fun k sl pl wx => ∃ ps p, k + p = t.length ∧ pl = .int .i64 (p : Nat) ∧ SgI t w wx sl ps p)
  case atStart => exact ⟨[], 0, by simp, rfl, HI.out⟩
  case round =>
    obtain ⟨ps, p, hkp, rfl, hS⟩ := hrel
    clear HI
    have HS := hideIt hS
    obtain ⟨a8, c8, rfl⟩ := some_of_row hS.row
    have hfew := hS.few
    have hwsz := hS.below.size
    cases gk with
    | zero =>
      have hge : ¬ (p : Int) < (t.length : Int) := by omega
      clear hS
      go_wp2_with (at_builtin; refine wpList_append_own_at _ rfl _ _ 61 rfl w.heap.size 69 i0 _ 2 24 Tryz.underlying61 hi hz0 hz1 hz2 rfl (by decide) _ _ _ rfl (HS.out.row.alloc _) ⟨wr.heap.size, 0, none⟩ 1 1 [.string (ba []), .int .i64 (t.length : Nat)] rfl rfl ?c1 ?c2 ?c3 ?c4 ?c5 ?_)
      case c1 =>
        intro j u hj
        match j, hj with
        | 0, hj => simp at hj; subst hj; simp; rfl
        | 1, hj => simp at hj; subst hj; simp
        | n + 2, hj => simp at hj
      case c2 => exact ⟨rfl, rfl⟩
      case c3 => unfold maxLen; omega
      case c4 => omega
      case c5 => omega
      intro v5 W5 ho5 hg5 hn5 hb5
      obtain ⟨S, c5, rfl⟩ : ∃ S c, v5 = .slice (some ⟨S, 0, none⟩) (ps.length + 1) c := by
        rcases ho5.2 with ⟨_, e⟩ | ⟨g', c', cur, e, _⟩
        · omega
        · exact ⟨g', c', e⟩
      have hEnd : SgTold t w (.returned (.slice (some ⟨S, 0, none⟩) (ps ++ [([], t.length)]).length c5)) W5 S c5 (ps ++ [([], t.length)]) := by
        refine ⟨rfl, ?_, ?_, ?_⟩
        · rw [sgCs_snoc, List.length_append]; exact ho5
        · have hx := HS.out.txt
          have e0 : t.length - p = 0 := by omega
          rw [e0] at hx
          rw [hx]; simp [sgs]
        · refine (HS.out.below.alloc (by omega) _).grown hg5 (by simp; omega) (fun g hg => ?_)
          exact (World.ownsRow.lt HS.out.row g hg).1
      have HEnd := hideIt hEnd
      clear ho5 hg5 hn5 hb5 hEnd
      go_wp2
      go_ret
      exact ⟨S, c5, _, by simpa using HEnd.out⟩
    | succ k =>
      have hlt : (p : Int) < (t.length : Int) := by omega
      have hpl : p < t.length := by omega
      have hps : p < (ba t).size := by omega
      obtain ⟨c, l, hcl⟩ : ∃ c l, t.drop p = c :: l := by
        cases h : t.drop p with
        | nil => have := congrArg List.length h; simp at this; omega
        | cons c l => exact ⟨c, l, rfl⟩
      have hlen := congrArg List.length hcl
      simp only [List.length_drop, List.length_cons] at hlen
      have htx := hS.txt
      have hkl : t.length - p = l.length + 1 := by omega
      have hget : ((ba t)[p]'hps).toNat = c.toNat := by
        have h1 : t[p]'hpl = c := by
          have := List.drop_eq_getElem_cons hpl
          rw [hcl] at this
          exact (List.cons.inj this).1.symm
        rw [← h1]; rfl
      have hl2 : t.drop (p + 1) = l := by
        have := List.drop_eq_getElem_cons hpl
        rw [hcl] at this
        exact (List.cons.inj this).2.symm
      rw [hkl, hcl] at htx
      simp only [sgs] at htx
      have HLen := hideIt hlen
      clear hS
      by_cases hc : c = 32
      · subst hc
        rw [if_pos rfl] at htx
        have hq : (((((ba t)[p]'hps).toNat : Nat) : Int) == 32) = true := by rw [hget]; rfl
        have HNew : Hid (SgI t w wr (.slice a8 ps.length c8) ps (p + 1)) := hideIt ⟨HS.out.row, by rw [htx, hl2]; congr 1; exact sgs_fuel _ _ _ (by omega) (by omega), by omega, by omega, HS.out.below⟩
        clear htx hcl hl2 hget
        go_wp2
        go_roundg k
        case measure => omega
        case rel => exact ⟨ps, p + 1, by omega, rfl, HNew.out⟩
      · rw [if_neg hc] at htx
        have hq : (((((ba t)[p]'hps).toNat : Nat) : Int) == 32) = false := by
          rw [hget]
          have : c.toNat ≠ 32 := fun e => hc (UInt8.toNat_inj.1 e)
          simp; omega
        obtain ⟨z, hz⟩ : ∃ z, sgLen (c :: l) = z := ⟨_, rfl⟩
        have hzp := sgLen_pos (l := c :: l) (by simp)
        rw [hz] at htx hzp
        simp only [List.length_cons] at hzp
        have he1 : (ba t).extract p t.length = ba (c :: l) := by
          rw [ba_part, hcl, List.take_of_length_le (by simp; omega)]
        have he2 : (ba t).extract p (p + z) = ba ((c :: l).take z) := by
          rw [ba_part, hcl, show p + z - p = z by omega]
        have HTx := hideIt htx
        have HG := hideIt (fun W => signSize_any (c :: l) W (by simp; omega))
        rw [hz] at HG
        have HDr : Hid (t.drop (p + z) = (c :: l).drop z) := hideIt (by rw [← hcl, List.drop_drop])
        have HHo : Hid (sgs l.length ((c :: l).drop z) = sgs (t.length - (p + z)) ((c :: l).drop z)) := hideIt (sgs_fuel _ _ _ (by simp; omega) (by simp; omega))
        clear htx hcl hl2 hget hc hz
        go_wp2_with fail
        refine (HG.out _).mono ?_
        rintro y W1 ⟨rfl, hf1⟩
        have hs1 := hf1.size
        have hrow1 : W1.ownsRow w.heap.size 69 2 (.slice a8 ps.length c8) ps.length (sgCs ps) := ownsRow_blk HS.out.row (fun g hg => hf1.block g (World.ownsRow.lt HS.out.row g hg).2 (by simp))
        have HB1 : Hid (Below w.heap.size w W1) := hideIt (HS.out.below.trans (⟨hf1.os, hf1.tape, hf1.output, hf1.size, fun k hk => hf1.block k (by omega) (by simp)⟩))
        have HRow1 := hideIt hrow1
        clear hf1 hrow1
        go_wp2_with (at_builtin; refine wpList_append_own_at _ rfl _ _ 61 rfl w.heap.size 69 i0 _ 2 24 Tryz.underlying61 hi hz0 hz1 hz2 rfl (by decide) _ _ _ rfl (HRow1.out.alloc _) ⟨W1.heap.size, 0, none⟩ 1 1 [.string (ba ((c :: l).take z)), .int .i64 (p : Nat)] rfl rfl ?c1 ?c2 ?c3 ?c4 ?c5 ?_)
        case c1 =>
          intro j u hj
          match j, hj with
          | 0, hj => simp at hj; subst hj; simp [Addr.add]
          | 1, hj => simp at hj; subst hj; simp [Addr.add]
          | n + 2, hj => simp at hj
        case c2 => intro u hu; simp at hu; rcases hu with h | h <;> (rw [h]; rfl)
        case c3 => unfold maxLen; omega
        case c4 => omega
        case c5 => rw [World.size_alloc]; omega
        intro v5 W5 ho5 hg5 hn5 hb5
        have HB5 : Hid (Below w.heap.size w W5) := hideIt ((HB1.out.alloc (by omega) _).grown hg5 (by simp; omega) (fun g hg => (World.ownsRow.lt HRow1.out g hg).1))
        have HNew : Hid (SgI t w W5 v5 (ps ++ [((c :: l).take z, p)]) (p + z)) := hideIt ⟨by rw [sgCs_snoc, List.length_append]; exact ho5, by rw [HTx.out, HDr.out, HHo.out]; simp, by simp; omega, by omega, HB5.out⟩
        clear ho5 hg5 hn5 hb5
        go_wp2
        go_roundg (t.length - (p + z))
        case measure => omega
        case rel => exact ⟨_, p + z, by omega, by simp, HNew.out⟩
end Go.Proofs.YthblokfiojccmaaGreatDoor.Gn
