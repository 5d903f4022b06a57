/-
  Package clock's Ahead, walked.
-/
import Derived.Test.YtmonbkoelehdlaaDoorVcW
import Derived.Test.YtmonbkoelehdlaaDoorMatP
namespace Go.Proofs.YtmonbkoelehdlaaDoor
open Go.RowKit

/-- What Ahead tells. -/
def AcTold (l : List Stp) (w : World) (e : Ending) (w' : World) : Prop :=
  ∃ v err n pl, e = .returned (.tuple #[v, err]) ∧ CkC l n pl ∧ ErrAt w' err n pl ∧ (n ≠ 0 → v = .slice none 0 0) ∧ (n = 0 → ∃ B rb, v = .slice (some ⟨B, 0, none⟩) l.length l.length ∧ MatAt w' w.heap.size B l.length l.length rb (aheadC l)) ∧ Below w.heap.size w w'

def acF (l : List Stp) (b : Nat) (S : Nat → Bool) (i k : Nat) : Bool := if k < b then aheadC l i k else if k = b then S i else false
def acS (l : List Stp) (L : List Nat) (i : Nat) : Bool := L.any fun j => decide (i = j) || aheadC l i j
theorem acS_next (l : List Stp) (L : List Nat) {r : Nat} (h : r < L.length) (i : Nat) : (acS l (L.take r) i || (decide (i = L[r]) || aheadC l i L[r])) = acS l (L.take (r + 1)) i := by
  unfold acS
  rw [List.take_succ_eq_append_getElem h, List.any_append]
  simp
theorem acS_all {l : List Stp} (ok : ClOk l) {i k : Nat} (hi : i < l.length) (hk : k < l.length) : acS l (predC l k) i = aheadC l i k := by
  rw [Bool.eq_iff_iff, ahead_pred ok hi hk]
  simp [acS]
def acG (S T : Nat → Bool) (a i : Nat) : Bool := if i < a then T i else S i

set_option maxRecDepth 100000 in
set_option maxHeartbeats 4000000 in
theorem ahead_any (l : List Stp) (a : Option Addr) (cap : Nat) (w : World) (hmax : l.length ≤ maxLen) (hl : StpsQ w a l) :
    Calls Tryd.prog 19 #[.slice a l.length cap] w fun e w' => AcTold l w e w' := by
  have HC := hideIt (check_any l a cap w hmax hl)
  have HL := hideIt hl
  clear hl
  go_enter Tryd.func19, Tryd.ntmps19
  go_wp2_with fail
  refine HC.out.mono ?_
  rintro e w1 ⟨err, n, pl, rfl, hck, her, hb1⟩
  have HCk := hideIt hck
  have HB1 := hideIt hb1
  clear hck hb1 HC
  by_cases hn : n = 0
  · subst hn
    obtain ⟨rfl, rfl⟩ := her.nil
    clear her
    have hok := HCk.out.ok
    have h40 := hok.1
    have HFine := hideIt hok.2.1
    clear hok
    have hmk := made_rows w1 l.length (by omega)
    have HI0 := hideIt (mat_made w1 l.length)
    have HB2 : Hid (Below w.heap.size w (w1.alloc (.cells (madeCells #[.slice none 0 0] l.length) 64))) := belA HB1.out _
    go_wp2
    generalize w1.alloc (.cells (madeCells #[.slice none 0 0] l.length) 64) = W2 at HI0 HB2 ⊢
    clear hmk
    go_loopw [23] (fun i wr => ∃ (k : Nat) (rb : Nat → Nat), k ≤ l.length ∧ i = .int .i64 k ∧ MatAt wr w1.heap.size w1.heap.size l.length k rb (fun _ _ => false) ∧ Below w.heap.size w wr) (fun i _ => l.length - (intOf i).toNat)
    case atStart => exact ⟨0, _, Nat.zero_le _, rfl, HI0.out, HB2.out⟩
    case round =>
      clear HI0 HB2
      obtain ⟨k, rb, hk, rfl, hm, hb⟩ := hrel
      have HM := hideIt hm
      have HB := hideIt hb
      clear hm hb
      by_cases hkl : k < l.length
      · have hmk := made_bits wr l.length (by omega)
        obtain ⟨v0, hv0⟩ := HM.out.room k hkl
        have hBl := HM.out.lt
        have hMA := HM.out.alloc (.cells (madeCells #[.bool false] l.length) 4)
        have c0 : (wr.alloc (.cells (madeCells #[.bool false] l.length) 4)).cell? ⟨w1.heap.size, k, none⟩ = some v0 := by rw [World.cell?_alloc_lt _ _ ⟨w1.heap.size, k, none⟩ hBl]; exact hv0
        have z0 := hMA.fz k
        have R1 : Hid (∃ rb, MatAt ((wr.alloc (.cells (madeCells #[.bool false] l.length) 4)).setCell ⟨w1.heap.size, k, none⟩ (.slice (some ⟨wr.heap.size, 0, none⟩) l.length l.length)) w1.heap.size w1.heap.size l.length (k + 1) rb (fun _ _ => false)) :=
          ⟨_, (hMA.add hkl (bits_made wr l.length) (by omega) (by omega) (fun i hi => by have := (HM.out.row i hi).lt; omega)).same fun i k _ _ => by split <;> rfl⟩
        have R2 : Hid (Below w.heap.size w ((wr.alloc (.cells (madeCells #[.bool false] l.length) 4)).setCell ⟨w1.heap.size, k, none⟩ (.slice (some ⟨wr.heap.size, 0, none⟩) l.length l.length))) := (belA HB.out _).setCell HB1.out.size _
        clear hMA hv0
        rw [World.setCell_alloc_past _ _ _ _ hBl] at R1 R2
        go_wp2
        go_roundw
        case rel =>
          obtain ⟨rb', hr⟩ := R1.out
          exact ⟨k + 1, rb', by omega, by go_num, hr, R2.out⟩
        case measure => simp [intOf]; omega
      · obtain rfl : k = l.length := by omega
        rename World => WS
        have HSo := hideIt (sources_any l a cap WS h40 HFine.out (HL.out.below HB.out))
        go_wp2_with fail
        refine HSo.out.mono ?_
        rintro e w3 ⟨vs, rfl, hso, hb3⟩
        have HT := hideIt hso
        have HI := hideIt (HM.out.below hb3)
        have HB3 := hideIt (belJ HB.out hb3)
        have HBd : Hid (∀ i, i < l.length → rb i < WS.heap.size) := fun i hi => (HM.out.row i hi).lt
        have hBl : w1.heap.size < WS.heap.size := HM.out.lt
        clear hso hb3 HSo HM HB HL
        go_wp2
        go_loopw [36] (fun i wx => ∃ b : Nat, b ≤ l.length ∧ i = .int .i64 b ∧ MatAt wx w1.heap.size w1.heap.size l.length l.length rb (acF l b fun _ => false) ∧ SoTab l WS wx l.length [] vs ∧ Below w.heap.size w wx) (fun i _ => l.length - (intOf i).toNat)
        case atStart => exact ⟨0, Nat.zero_le _, rfl, HI.out.same fun i k _ _ => by simp [acF], HT.out, HB3.out⟩
        case round =>
          clear HT HI HB3
          obtain ⟨b, hbk, rfl, hi, hso, hb⟩ := hrel
          have HI := hideIt hi
          have HT := hideIt hso
          have HB := hideIt hb
          clear hi hso hb
          by_cases hbl : b < l.length
          · obtain ⟨ra, rc, hc0, hrc, hrow⟩ := HT.out.read b hbl
            have HRow : Hid (∀ wq, SoTab l WS wq l.length [] vs → ∀ j (hj : j < (predC l b).length), ∃ g, ra = some ⟨g, 0, none⟩ ∧ wq.cell? ⟨g, j, none⟩ = some (.int .i64 ((predC l b)[j] : Int))) := fun wq hq j hj => by
              obtain ⟨ra', rc', hc0', _, hrow'⟩ := hq.read b hbl
              have e1 := (TabN.tab hq).cell hbl
              have e2 := HT.out.tab.cell hbl
              rw [hc0'] at e1
              rw [hc0] at e2
              rw [← e2] at e1
              have e3 := Option.some.inj e1
              simp at e3
              rw [← e3.1]
              exact hrow' j hj
            have hfew := predC_few l b
            clear hrow
            go_wp2
            go_loopw [43] (fun i wx => ∃ r : Nat, r ≤ (predC l b).length ∧ i = .int .i64 r ∧ MatAt wx w1.heap.size w1.heap.size l.length l.length rb (acF l b (acS l ((predC l b).take r))) ∧ SoTab l WS wx l.length [] vs ∧ Below w.heap.size w wx) (fun i _ => (predC l b).length - (intOf i).toNat)
            case atStart => exact ⟨0, Nat.zero_le _, rfl, HI.out.same fun i k _ _ => by simp [acF, acS], HT.out, HB.out⟩
            case round =>
              clear HI HT HB hc0
              obtain ⟨r, hr, rfl, hi, hso, hb⟩ := hrel
              have HI := hideIt hi
              have HT := hideIt hso
              have HB := hideIt hb
              clear hi hso hb
              by_cases hrl : r < (predC l b).length
              · obtain ⟨g, rfl, hg⟩ := HRow.out _ HT.out r hrl
                have hjl := predC_lt (List.getElem_mem hrl)
                have HN := hideIt (acS_next l (predC l b) hrl)
                generalize (predC l b)[r] = j at hg hjl HN
                obtain ⟨S, HS⟩ : ∃ S, Hid (acS l ((predC l b).take r) = S) := ⟨_, hideIt rfl⟩
                obtain ⟨S', HS'⟩ : ∃ S', Hid (acS l ((predC l b).take (r + 1)) = S') := ⟨_, hideIt rfl⟩
                rw [HS.out] at HI HN
                rw [HS'.out] at HN
                go_wp2
                go_loopw [49] (fun i wx => ∃ c : Nat, c ≤ l.length ∧ i = .int .i64 c ∧ MatAt wx w1.heap.size w1.heap.size l.length l.length rb (acF l b (acG S S' c)) ∧ SoTab l WS wx l.length [] vs ∧ Below w.heap.size w wx) (fun i _ => l.length - (intOf i).toNat)
                case atStart => exact ⟨0, Nat.zero_le _, rfl, HI.out.same fun i k _ _ => by simp [acF, acG], HT.out, HB.out⟩
                case round =>
                  clear HI HT HB hg
                  obtain ⟨c, hc, rfl, hi, hso, hb⟩ := hrel
                  have HI := hideIt hi
                  have HT := hideIt hso
                  have HB := hideIt hb
                  clear hi hso hb
                  by_cases hcl : c < l.length
                  · have h0 := HI.out.head c hcl
                    have hrw := HI.out.row c hcl
                    have c1 := hrw.bit b hbl
                    have c2 := hrw.bit j (by omega)
                    have z1 := hrw.fz b
                    rw [show acF l b (acG S S' c) c b = S c by simp [acF, acG]] at c1
                    rw [show acF l b (acG S S' c) c j = aheadC l c j by simp [acF, hjl]] at c2
                    have hjL : j < l.length := by omega
                    have HNc := hideIt (HN.out c)
                    have HP : Hid (MatAt (wr.setCell ⟨rb c, b, none⟩ (.bool (S' c))) w1.heap.size w1.heap.size l.length l.length rb (acF l b (acG S S' (c + 1))) ∧ SoTab l WS (wr.setCell ⟨rb c, b, none⟩ (.bool (S' c))) l.length [] vs ∧ Below w.heap.size w (wr.setCell ⟨rb c, b, none⟩ (.bool (S' c)))) := by
                      refine ⟨(HI.out.put hcl hbl (S' c)).same fun i k _ _ => ?_, HT.out.set (p := ⟨rb c, b, none⟩) (HBd.out c hcl) _, HB.out.setCell (p := ⟨rb c, b, none⟩) (by have := (HI.out.from_ c hcl).1; have := HB1.out.size; show w.heap.size ≤ rb c; omega) _⟩
                      unfold acF acG
                      by_cases e : i = c
                      · subst e
                        by_cases e2 : k = b
                        · subst e2; simp
                        · simp [e2]
                      · by_cases e2 : k = b
                        · subst e2
                          have : i < c + 1 ↔ i < c := by omega
                          simp [e, this]
                        · simp [e2]
                    obtain ⟨sc, hsc⟩ : ∃ sc, S c = sc := ⟨_, rfl⟩
                    obtain ⟨aj, haj⟩ : ∃ aj, aheadC l c j = aj := ⟨_, rfl⟩
                    rw [hsc] at c1 HNc
                    rw [haj] at c2 HNc
                    clear hsc haj hrw
                    obtain ⟨s', hs'⟩ : ∃ s', S' c = s' := ⟨_, rfl⟩
                    rw [hs'] at HP HNc
                    cases sc
                    · by_cases hcj : c = j
                      · have e : s' = true := by rw [← HNc.out, hcj]; simp
                        subst e
                        subst hcj
                        go_wp2
                        go_roundw
                        case rel => exact ⟨c + 1, by omega, by go_num, HP.out⟩
                        case measure => simp [intOf]; omega
                      · have e : s' = aj := by rw [← HNc.out]; simp [hcj]
                        subst e
                        have hd : ((c : Int) == (j : Int)) = false := by simp; omega
                        go_wp2
                        go_roundw
                        case rel => exact ⟨c + 1, by omega, by go_num, HP.out⟩
                        case measure => simp [intOf]; omega
                    · have e : s' = true := by rw [← HNc.out]; simp
                      subst e
                      go_wp2
                      go_roundw
                      case rel => exact ⟨c + 1, by omega, by go_num, HP.out⟩
                      case measure => simp [intOf]; omega
                  · obtain rfl : c = l.length := by omega
                    have R1 : Hid (MatAt wr w1.heap.size w1.heap.size l.length l.length rb (acF l b (acS l ((predC l b).take (r + 1))))) := HI.out.same fun i k hi _ => by
                      rw [HS'.out]
                      unfold acF acG
                      simp [hi]
                    go_wp2
                    go_roundw
                    case rel => exact ⟨r + 1, by omega, by go_num, R1.out, HT.out, HB.out⟩
                    case measure => simp [intOf]; omega
              · obtain rfl : r = (predC l b).length := by omega
                rw [List.take_length] at HI
                have R1 : Hid (MatAt wr w1.heap.size w1.heap.size l.length l.length rb (acF l (b + 1) fun _ => false)) := HI.out.same fun i k hi hk => by
                  unfold acF
                  by_cases e : k = b
                  · subst e
                    simp [acS_all HCk.out.clOk hi hk]
                  · by_cases e2 : k < b
                    · simp [e2, show k < b + 1 by omega]
                    · simp [e2, e, show ¬ k < b + 1 by omega]
                go_wp2
                go_roundw
                case rel => exact ⟨b + 1, by omega, by go_num, R1.out, HT.out, HB.out⟩
                case measure => simp [intOf]; omega
          · obtain rfl : b = l.length := by omega
            have R1 : Hid (MatAt wr w.heap.size w1.heap.size l.length l.length rb (aheadC l)) := (HI.out.same fun i k _ hk => by simp [acF, hk]).mono HB1.out.size
            go_wp2
            go_ret2
            exact ⟨_, _, 0, -1, rfl, HCk.out, .inl ⟨rfl, rfl, rfl⟩, fun h => absurd rfl h, fun _ => ⟨_, rb, rfl, R1.out⟩, HB.out⟩
  · obtain ⟨t', u', rfl⟩ := her.ne hn
    have HE := hideIt her
    clear her
    go_wp2
    go_ret2
    exact ⟨_, _, n, pl, rfl, HCk.out, HE.out, fun _ => rfl, fun h => absurd h hn, HB1.out⟩
end Go.Proofs.YtmonbkoelehdlaaDoor
