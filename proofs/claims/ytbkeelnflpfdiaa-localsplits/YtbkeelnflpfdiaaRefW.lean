/-
  The document's Split, walked: a key's ops and their numbers.
-/
import Derived.Test.YtbkeelnflpfdiaaBase
namespace Go.Proofs.Ytbkeelnflpfdiaa
open Go.RowKit

theorem info34 : (Try.prog.info? 34).map (fun i => (i.zero, i.size, i.bytes)) = some (some (.agg #[.int .i64 0, .int .i64 0, .int .i64 0, .int .i64 0, .int .i64 0, .int .i64 0, .int .i64 0, .int .i64 0]), 8, 64) := by kernel_rfl
theorem info3 : (Try.prog.info? 3).map (fun i => (i.zero, i.size, i.bytes)) = some (some (.int .i64 0), 1, 8) := by kernel_rfl

/-- An op appended, and where. -/
theorem run_appO {w : World} {base B : Nat} {v : Value} {n : Nat} {L : List Opn} {op : Opn} (hown : w.ownsRow base 34 8 v n (opCells L)) (hB : OpAt w B 0 op) (hb : base ≤ w.heap.size) (hlen : n ≤ 1000) (ty : TypeId) :
    ∃ v' w', (Builtin.append_ #[22, 22] ty #[v, .slice (some ⟨B, 0, none⟩) 1 1]).run Try.prog w = .ok v' w' ∧ w'.ownsRow base 34 8 v' (n + 1) (opCells (L ++ [op])) ∧ w.grownBy w' v.ownBlock ∧ (v'.ownBlock = v.ownBlock ∨ v'.ownBlock = some w.heap.size) := by
  obtain ⟨i, hi, hz, hsz, hby⟩ := info_parts info34
  have hnews : ∀ j u, op.list[j]? = some u → w.cell? ((⟨B, 0, none⟩ : Addr).add j) = some u := by
    intro j u hj
    rw [Addr.add_lit]
    obtain ⟨h0, h1, h2, h3, h4, h5, h6, h7⟩ := hB
    match j, hj with
    | 0, hj | 1, hj | 2, hj | 3, hj | 4, hj | 5, hj | 6, hj | 7, hj =>
      simp [Opn.list] at hj; subst hj; assumption
  obtain ⟨v', w', hr, ho, hg, _, hob⟩ := run_append_own_at (P := Try.prog) (w := w) base 22 ty 34 i _ 8 64 Try.underlying22 hi hz hsz hby rfl (by decide) v _ _ hown ⟨B, 0, none⟩ 1 1 op.list rfl hnews (by simp [Opn.list, Value.oneCell']) (by unfold maxLen; omega) (by omega) hb
  exact ⟨v', w', hr, by rw [opCells_snoc]; exact ho, hg, hob⟩
/-- A number appended, and where. -/
theorem run_appN {w : World} {base B : Nat} {v : Value} {n : Nat} {L : List Nat} {x : Nat} (hown : w.ownsRow base 3 1 v n (ordV L)) (hB : w.cell? ⟨B, 0, none⟩ = some (.int .i64 (x : Int))) (hb : base ≤ w.heap.size) (hlen : n ≤ 1000) (ty : TypeId) :
    ∃ v' w', (Builtin.append_ #[27, 27] ty #[v, .slice (some ⟨B, 0, none⟩) 1 1]).run Try.prog w = .ok v' w' ∧ w'.ownsRow base 3 1 v' (n + 1) (ordV (L ++ [x])) ∧ w.grownBy w' v.ownBlock ∧ (v'.ownBlock = v.ownBlock ∨ v'.ownBlock = some w.heap.size) := by
  obtain ⟨i, hi, hz, hsz, hby⟩ := info_parts info3
  have hnews : ∀ j u, [Value.int .i64 (x : Int)][j]? = some u → w.cell? ((⟨B, 0, none⟩ : Addr).add j) = some u := by
    intro j u hj
    match j, hj with
    | 0, hj => simp at hj; subst hj; simpa [Addr.add] using hB
  obtain ⟨v', w', hr, ho, hg, _, hob⟩ := run_append_own_at (P := Try.prog) (w := w) base 27 ty 3 i _ 1 8 Try.underlying27 hi hz hsz hby rfl (by decide) v _ _ hown ⟨B, 0, none⟩ 1 1 [.int .i64 (x : Int)] rfl hnews (by simp [Value.oneCell']) (by unfold maxLen; omega) (by omega) hb
  refine ⟨v', w', hr, ?_, hg, hob⟩
  have e : ordV (L ++ [x]) = ordV L ++ [.int .i64 (x : Int)] := by simp [ordV]
  rw [e]; exact ho

set_option maxRecDepth 100000 in
set_option maxHeartbeats 1000000 in
theorem refSplit_any (ops : List Opn) (q : Int) (u : Value) (w : World) (hlen : ops.length ≤ 60) (hl : OpsIn w u ops) :
    Calls Try.prog 5 #[u, .int .i64 q] w fun e w' => ∃ v n, e = .returned (.tuple #[v, n]) ∧ PartAt w' w.heap.size v n ops q ops.length ∧ Below w.heap.size w w' := by
  obtain ⟨a, cap, rfl, hc, hm, hl⟩ := hl
  have HC : Hid (∀ k, (hk : k < ops.length) → ∃ b off, a = some ⟨b, off, none⟩ ∧ ∀ wr, Below w.heap.size w wr → OpAt wr b (off + k * 8) (opN ops k)) := fun k hk => by
    rcases hl with rfl | ⟨b, off, rfl, hb, ho⟩
    · simp at hk
    · exact ⟨b, off, rfl, fun wr hW => by rw [opN_at hk]; exact (ho k hk).below hb hW⟩
  clear hl
  go_enter Try.func5, Try.ntmps5
  go_wp2
  go_loopw [6, 7, 12] (fun v n i wr => ∃ k : Nat, k ≤ ops.length ∧ i = .int .i64 k ∧ PartAt wr w.heap.size v n ops q k ∧ Below w.heap.size w wr) (fun _ _ i _ => ops.length - (intOf i).toNat)
  case atStart => exact ⟨0, by omega, rfl, ⟨World.ownsRow_nil _ _ _ _, World.ownsRow_nil _ _ _ _⟩, Below.refl _ _⟩
  case round =>
    obtain ⟨k, hk, rfl, hp, hb⟩ := hrel
    have HB := hideIt hb
    have HP := hideIt hp
    have hsz := hb.size
    clear hb hp
    by_cases hkl : k < ops.length
    · obtain ⟨b, off, rfl, hc⟩ := HC.out k hkl
      obtain ⟨c0, c1, c2, c3, c4, c5, c6, c7⟩ := hc _ HB.out
      have hbl : b < wr.heap.size := World.block_lt_of_cell? wr _ c0
      obtain ⟨x, hx⟩ : ∃ x, opN ops k = x := ⟨_, rfl⟩
      rw [hx] at c0 c1 c2 c3 c4 c5 c6 c7
      have HX := hideIt hx
      clear hx hc
      have k1 : (0 : Int) ≤ (k : Int) := by omega
      have k2 : (k : Int) < (ops.length : Int) := by omega
      have hwr : IntKind.i64.wrap ((k : Int) + 1) = (k : Int) + 1 := by rw [IntKind.wrap_i64]; omega
      by_cases hq : x.k = q
      · subst hq
        have hpa := HP.out.part
        have hpn := HP.out.num
        have hle := nums_le ops x.k k
        obtain ⟨i34, hi, hz, hsz34, hby⟩ := info_parts info34
        obtain ⟨i3, hi3, hz3, hsz3, hby3⟩ := info_parts info3
        have HPA := hideIt hpa
        have HPN := hideIt hpn
        clear hpa hpn
        go_wp2_with (at_builtin; refine wpList_append_own_at _ rfl _ _ 22 rfl w.heap.size 34 i34 _ 8 64 Try.underlying22 hi hz hsz34 hby rfl (by decide) _ _ _ rfl ((HPA.out.alloc _).alloc _) ⟨wr.heap.size + 1, 0, none⟩ 1 1 x.list rfl rfl ?c1 ?c2 ?c3 ?c4 ?c5 ?_)
        case c1 =>
          intro j u hj
          match j, hj with
          | 0, hj | 1, hj | 2, hj | 3, hj | 4, hj | 5, hj | 6, hj | 7, hj => simp [Opn.list] at hj; subst hj; simp [Addr.add]
        case c2 => intro u hu; simp [Opn.list] at hu; rcases hu with rfl | rfl | rfl | rfl | rfl | rfl | rfl | rfl <;> rfl
        case c3 => unfold maxLen; omega
        case c4 => omega
        case c5 => simp; omega
        intro v1 w1 ho1 hg1 _ hob1
        have hs1 := hg1.size
        have hn1 : w1.ownsRow w.heap.size 3 1 _ _ _ := ((HPN.out.alloc _).alloc _).kept hg1 (by
          rcases Classical.em (Value.ownBlock u7 = none) with h | h
          · exact .inl h
          · refine .inr fun e => ?_
            obtain ⟨b7, hb7⟩ := Option.ne_none_iff_exists'.1 h
            obtain ⟨_, _, _, e1⟩ := ownsRow_block HPN.out b7 hb7
            obtain ⟨_, _, _, e2⟩ := ownsRow_block HPA.out b7 (by rw [← e]; exact hb7)
            rw [e1] at e2
            simp at e2)
        have HB1 : Hid (Below w.heap.size w w1) := hideIt (((belA (belA HB.out _) _)).grown hg1 (by simp; omega) (fun b hb => (HPA.out.lt b hb).1))
        have HO1 := hideIt ho1
        have HN1 := hideIt hn1
        clear ho1 hn1 hg1 hob1
        go_wp2_with (at_builtin; refine wpList_append_own_at _ rfl _ _ 27 rfl w.heap.size 3 i3 _ 1 8 Try.underlying27 hi3 hz3 hsz3 hby3 rfl (by decide) _ _ _ rfl (HN1.out.alloc _) ⟨w1.heap.size, 0, none⟩ 1 1 [.int .i64 (k : Int)] rfl rfl ?c1 ?c2 ?c3 ?c4 ?c5 ?_)
        case c1 =>
          intro j u hj
          match j, hj with
          | 0, hj => simp at hj; subst hj; simp [Addr.add]
        case c2 => intro u hu; simp at hu; subst hu; rfl
        case c3 => unfold maxLen; omega
        case c4 => omega
        case c5 => simp; simp at hs1; omega
        intro v2 w2 ho2 hg2 _ _
        have HR : Hid (PartAt w2 w.heap.size v1 v2 ops x.k (k + 1)) := hideIt (by
          refine ⟨?_, ?_⟩
          · rw [nums_hit (by rw [HX.out]), part_hit (by rw [HX.out]), HX.out, opCells_snoc, List.length_append]
            refine (HO1.out.alloc _).kept hg2 ?_
            rcases Classical.em (Value.ownBlock v1 = none) with h | h
            · exact .inl h
            · refine .inr fun e => ?_
              obtain ⟨b7, hb7⟩ := Option.ne_none_iff_exists'.1 h
              obtain ⟨_, _, _, e1⟩ := ownsRow_block HO1.out b7 hb7
              obtain ⟨_, _, _, e2⟩ := ownsRow_block HN1.out b7 (by rw [← e]; exact hb7)
              rw [e1] at e2
              simp at e2
          · rw [nums_hit (by rw [HX.out]), List.length_append]
            have e : ordV (nums ops x.k k ++ [k]) = ordV (nums ops x.k k) ++ [.int .i64 (k : Int)] := by simp [ordV]
            rw [e]
            exact ho2)
        have HB2 : Hid (Below w.heap.size w w2) := hideIt ((belA HB1.out _).grown hg2 (by simp; simp at hs1; omega) (fun b hb => (HN1.out.lt b hb).1))
        clear ho2 hg2
        go_wp2
        go_roundw
        case rel => exact ⟨k + 1, by omega, by go_num, HR.out, HB2.out⟩
        case measure => simp [intOf]; omega
      · have HR : Hid (∀ W, Below wr.heap.size wr W → PartAt W w.heap.size u6 u7 ops q (k + 1)) := hideIt (fun W hW => by
          have hne : (opN ops k).k ≠ q := by rw [HX.out]; exact hq
          refine ⟨?_, ?_⟩
          · rw [nums_miss hne, part_miss hne]
            exact ownsRow_same HP.out.part (fun b hb => hW.block b (ownsRow_block HP.out.part b hb).2.1)
          · rw [nums_miss hne]
            exact ownsRow_same HP.out.num (fun b hb => hW.block b (ownsRow_block HP.out.num b hb).2.1))
        go_wp2
        go_roundw
        case rel => exact ⟨k + 1, by omega, by go_num, HR.out _ (belA (Below.refl _ _) _), belA HB.out _⟩
        case measure => simp [intOf]; omega
    · obtain rfl : k = ops.length := by omega
      go_wp2
      go_ret2
      exact ⟨_, _, rfl, HP.out, HB.out⟩
end Go.Proofs.Ytbkeelnflpfdiaa
