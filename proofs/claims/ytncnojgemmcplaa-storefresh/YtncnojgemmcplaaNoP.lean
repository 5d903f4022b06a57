/-
  The program's net, walked: Drop.
-/
import Derived.Test.YtncnojgemmcplaaNaP
import Derived.Test.YtncnojgemmcplaaNdP
namespace Go.Proofs.Ytncnojgemmcplaa
open Go.RowKit

/-- What Drop tells. -/
def DropQ (base B o : Nat) (v : Value) (L : List Mq) (i : Int) (w : World) (e : Ending) (w' : World) : Prop :=
  ((i < 0 ∨ (L.length : Int) ≤ i) ∧ e = .returned (.iface 46 (.int .i64 8)) ∧ Below w.heap.size w w') ∨
  (∃ (k : Nat) (m : Mq), i = k ∧ L[k]? = some m ∧ e = .returned .nilIface ∧ MailTold base B o v (L.eraseIdx k) w w')

set_option maxRecDepth 100000 in
set_option maxHeartbeats 4000000 in
theorem pdrop_any (i : Int) (base B o : Nat) (lv v : Value) (L : List Mq) (hL : L.length ≤ 500) (w : World) (h : NetP w base B o lv v L) :
    Calls Try.prog 35 #[.pointer (some ⟨B, o, none⟩), .int .i64 i] w fun e w' => DropQ base B o v L i w e w' := by
  have HN := hideIt h
  have HA := hideIt (pat_any i base B o lv v L w h)
  clear h
  go_enter Try.func35, Try.ntmps35
  go_wp2_with fail
  refine HA.out.mono ?_
  clear HA
  rintro e W1 ⟨(⟨hi, rfl⟩ | ⟨k, m, rfl, hm, rfl⟩), hb⟩
  · have HI := hideIt hi
    have HB := hideIt hb
    unfold mqV mq0
    clear hi hb
    go_wp2
    go_ret
    exact .inl ⟨HI.out, rfl, by first | exact belA HB.out _ | (have := belA HB.out (.cells #[.int .i64 0, .int .i64 0, .int .i64 0, .int .i64 0, .bool false, .int .i64 0, .int .i64 0, .int .i64 0] 73); exact this)⟩
  · have HM := hideIt hm
    have hk : k < L.length := (List.getElem?_eq_some_iff.1 hm).1
    have HB1 := hideIt (belA hb (.cells #[.int .i64 m.fr, .int .i64 m.tt, .int .i64 m.key, .int .i64 m.rd, .bool m.tells, .int .i64 m.t, .int .i64 m.c, .int .i64 m.v] 73))
    have hP := HN.out.below HB1.out
    have HP := hideIt hP
    have hwk : IntKind.i64.wrap ((k : Int) + 1) = (k : Int) + 1 := IntWalk.i64_in _ (by omega)
    have HD := hideIt (pdel_any k base v L hL hk _ hP.row)
    have c0 := hP.c0
    have HBs := hideIt hb.size
    clear hP hm hb
    unfold mqV
    go_wp2_with fail
    refine HD.out.mono ?_
    clear HD
    rintro e W2 ⟨v', rfl, hg, ho, hob⟩
    obtain ⟨a6, cap6, rfl⟩ := ownsRow_slice ho
    have eB : W2.heap[B]? = _ := hg.block B HP.out.lt (fun e => HN.out.ne e.symm)
    have c6 : W2.cell? ⟨B, o, none⟩ = some v := (World.cell?_of_block (a := ⟨B, o, none⟩) eB).trans HP.out.c0
    have f6 : W2.frozen? ⟨B, o, none⟩ = false := (World.frozen?_of_block (a := ⟨B, o, none⟩) eB).trans HP.out.f0
    have HG : Hid (MailTold base B o v (L.eraseIdx k) w (W2.setCell ⟨B, o, none⟩ (.slice a6 (L.eraseIdx k).length cap6))) :=
      ⟨_, MailT.of HN.out (((grown_below HB1.out).but _).trans hg) ho (.inl hob)⟩
    clear hg ho hob eB HP HB1 c0 HBs HN
    generalize (L.eraseIdx k).length = N6 at *
    go_wp2
    go_ret
    exact .inr ⟨k, m, rfl, HM.out, rfl, HG.out⟩
end Go.Proofs.Ytncnojgemmcplaa
