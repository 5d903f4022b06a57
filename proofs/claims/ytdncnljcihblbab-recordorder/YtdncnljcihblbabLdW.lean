/-
  The statements' own pick, begins and logged: walked.
-/
import Derived.Test.YtdncnljcihblbabKpW
namespace Go.Proofs.Ytdncnljcihblbab
open Go.RowKit

def pickN (a : Int) (n : Nat) : Nat := (IntKind.u64.wrap a).toNat % n
set_option maxHeartbeats 1000000 in
theorem pick_is (a : Int) (n : Nat) (w : World) (h0 : 0 < n) (hn : n ≤ 1000000) : Calls Try.prog 15 #[.int .i64 a, .int .i64 n] w fun e w' => e = .returned (.int .i64 (pickN a n)) ∧ w' = w := by
  have e1 : IntKind.u64.wrap (n : Int) = (n : Int) := by rw [IntKind.wrap_u64]; omega
  have h64 : 0 ≤ IntKind.u64.wrap a := by rw [IntKind.wrap_u64]; omega
  obtain ⟨m, hm⟩ : ∃ m : Nat, IntKind.u64.wrap a = m := ⟨(IntKind.u64.wrap a).toNat, by omega⟩
  have HPN : Hid (pickN a n = m % n) := hideIt (by unfold pickN; rw [hm, Int.toNat_natCast])
  have hne : (n : Int) ≠ 0 := by omega
  have hne' : ((n : Int) == 0) = false := by simp; omega
  have HM : Hid (wrap64 ((m : Int) % (n : Int)) = ((m % n : Nat) : Int)) := hideIt (by
    have h2 : m % n < n := Nat.mod_lt _ h0
    have h3 : (m : Int) % (n : Int) = ((m % n : Nat) : Int) := by simp
    rw [h3]
    unfold wrap64
    omega)
  go_enter Try.func15, Try.ntmps15
  go_wp2
  go_ret
  exact ⟨ret_int (by rw [HPN.out]; exact HM.out), rfl⟩

theorem evCells_get (L : List Ev) (i c : Nat) (hi : i < L.length) (hc : c < 7) : (evCells L)[i * 7 + c]? = L[i].cells[c]? := by
  induction L generalizing i with
  | nil => simp at hi
  | cons x r ih =>
    show (x.cells ++ evCells r)[i * 7 + c]? = _
    have hx : x.cells.length = 7 := rfl
    cases i with
    | zero =>
      rw [List.getElem?_append_left (by rw [hx]; omega)]
      simp
    | succ i =>
      rw [List.getElem?_append_right (by rw [hx]; omega), hx, show (i + 1) * 7 + c - 7 = i * 7 + c from by omega, ih i (by simpa using hi)]
      simp
/-- Events of one's own can be read. -/
theorem own_evq {W : World} {base : Nat} {v : Value} {l : List Ev} (h : W.ownsRow base 38 7 v l.length (evCells l)) : EvQ W v l := by
  obtain ⟨h1, ⟨rfl, h2⟩ | ⟨g, cap, cur, rfl, h3, h4, h5, h6, h7, h8⟩⟩ := id h
  · exact ⟨none, 0, by rw [h2], by omega, Or.inl (List.eq_nil_of_length_eq_zero h2)⟩
  · refine ⟨_, cap, rfl, h5, Or.inr ⟨g, 0, rfl, (Array.getElem?_eq_some_iff.1 h4).1, fun i hi => ?_⟩⟩
    have key : ∀ c, c < 7 → W.cell? ⟨g, 0 + i * 7 + c, none⟩ = l[i].cells[c]? := fun c hc => by
      rw [Nat.zero_add, h.cellAt (i * 7 + c) (by omega), evCells_get l i c hi hc]
    exact ⟨key 0 (by decide), key 1 (by decide), key 2 (by decide), key 3 (by decide), key 4 (by decide), key 5 (by decide), key 6 (by decide)⟩
theorem EvQ.below {w w' : World} {v : Value} {l : List Ev} (h : EvQ w v l) (hn : Below w.heap.size w w') : EvQ w' v l := by
  obtain ⟨a, c, h1, h2, h3 | ⟨b, o, h4, h5, h6⟩⟩ := h
  · exact ⟨a, c, h1, h2, Or.inl h3⟩
  · exact ⟨a, c, h1, h2, Or.inr ⟨b, o, h4, Nat.lt_of_lt_of_le h5 hn.size, fun i hi => (h6 i hi).below h5 hn⟩⟩
theorem EvQ.take {w : World} {a : Option Addr} {n c : Nat} {l : List Ev} (h : EvQ w (.slice a n c) l) (m : Nat) (hm : m ≤ l.length) : EvQ w (.slice a m c) (l.take m) := by
  obtain ⟨a', c', h1, h2, h3⟩ := h
  cases h1
  have hl : (l.take m).length = m := by simp; omega
  refine ⟨a, c, by rw [hl], by omega, ?_⟩
  rcases h3 with rfl | ⟨b, o, h4, h5, h6⟩
  · exact Or.inl (by simp)
  · refine Or.inr ⟨b, o, h4, h5, fun i hi => ?_⟩
    rw [List.getElem_take]
    exact h6 i (by simp at hi; omega)

set_option maxHeartbeats 1000000 in
set_option maxRecDepth 100000 in
theorem begins_true (va vb : Value) (la lb : List Ev) (w : World) (ha : EvQ w va la) (hb : EvQ w vb lb) (hp : la <+: lb) (hl : lb.length ≤ 1000000) :
    Calls Try.prog 11 #[va, vb] w fun e w' => e = .returned (.bool true) ∧ ∃ n, w' = w.drewN n := by
  have hle := hp.length_le
  have hge : ∀ i (h : i < la.length), lb[i]'(by omega) = la[i] := fun i h => by
    obtain ⟨t, rfl⟩ := hp
    exact List.getElem_append_left h
  clear hp
  obtain ⟨aa, ca, rfl, hca, hA⟩ := ha
  obtain ⟨ab, cb, rfl, hcb, hB⟩ := hb
  have HA := hideIt hA
  have HB := hideIt hB
  have HG := hideIt hge
  clear hA hB hge
  by_cases h0 : la.length = 0
  · rw [h0]
    go_enter Try.func11, Try.ntmps11
    go_wp2
    go_loop [5] (fun i => i = .int .i64 0) (fun _ => 0)
    case atStart => exact rfl
    case round =>
      obtain rfl := hrel
      go_wp2
      go_ret
      exact ⟨rfl, 0, rfl⟩
  · rcases HA.out with hA | ⟨ba, oa, rfl, hba, hA⟩
    · rw [hA] at h0; exact absurd rfl h0
    · rcases HB.out with hB | ⟨bb, ob, rfl, hbb, hB⟩
      · rw [hB] at hle; simp at hle; rw [hle] at h0; exact absurd rfl h0
      · have HA2 := hideIt hA
        have HB2 := hideIt hB
        clear hA hB HA HB
        go_enter Try.func11, Try.ntmps11
        go_wp2
        go_loopw [5] (fun i wr => ∃ k n : Nat, k ≤ la.length ∧ i = .int .i64 k ∧ wr = w.drewN n) (fun i _ => la.length - (intOf i).toNat)
        case atStart => exact ⟨0, 0, Nat.zero_le _, rfl, rfl⟩
        case round =>
          obtain ⟨k, n, hk, rfl, rfl⟩ := hrel
          by_cases hlt : k < la.length
          · obtain ⟨c0, c1, c2, c3, c4, c5, c6⟩ := HA2.out k hlt
            have hb2 := HB2.out k (by omega)
            rw [HG.out k hlt] at hb2
            obtain ⟨d0, d1, d2, d3, d4, d5, d6⟩ := hb2
            generalize la[k] = e at *
            go_wp2_with fail
            go_quiet (fail)
            go_wp2
            go_roundw
            case rel => exact ⟨k + 1, _, by omega, by go_num, rfl⟩
            case measure => simp [intOf]; omega
          · go_wp2
            go_ret
            exact ⟨rfl, n, rfl⟩

/-- What logged tells: a log of some events, a list of them, how many of them are sure. -/
def LoT (w : World) (l : List Ev) (r : Ending) (w' : World) : Prop :=
  ∃ (G : Nat) (all : List Ev) (sure : Nat) (va : Value), r = .returned (.tuple #[.pointer (some ⟨G, 0, none⟩), va, .int .i64 (sure : Nat)]) ∧ LogIn w' G all (framesL (all.take sure)).length ∧ sure ≤ all.length ∧ all.length ≤ l.length ∧
    w'.ownsRow (G + 1) 38 7 va all.length (evCells all) ∧ Below w.heap.size w w' ∧ w.heap.size ≤ G

theorem own_heap {W : World} {base : Nat} {e : TypeId} {z : Nat} {v : Value} {n : Nat} {xs : List Value} (h : W.ownsRow base e z v n xs) {k : Nat} (hk : v.ownBlock = some k) : ∃ cur fr, W.heap[k]? = some (.cells cur e fr) := by
  obtain ⟨_, ⟨rfl, _⟩ | ⟨g, c, cur, rfl, _, h5, _⟩⟩ := h
  · cases hk
  · cases hk; exact ⟨cur, _, h5⟩
/-- A log stays as it is where a row of events is turned. -/
theorem LogIn.row {W W' : World} {G : Nat} {l : List Ev} {s base : Nat} {v : Value} {n : Nat} {xs : List Value} (h : LogIn W G l s) (ho : W.ownsRow base 38 7 v n xs) (hG : G < base) (hg : W.grownBy W' v.ownBlock) : LogIn W' G l s := by
  refine h.kept hg (fun k hk => ⟨?_, fun u hu => ?_⟩)
  · have := (ho.lt k hk).1; omega
  · obtain ⟨u', hu', _, _, hty⟩ := h.fr
    rw [hu] at hu'; cases hu'
    obtain ⟨cur, fr, hh⟩ := own_heap ho hk
    exact hty.off hh (by decide)

theorem own_not {W : World} {base : Nat} {e : TypeId} {z : Nat} {v : Value} {n : Nat} {xs : List Value} (h : W.ownsRow base e z v n xs) {G : Nat} (hG : G < base) : v.ownBlock = none ∨ v.ownBlock ≠ some G := by
  cases hv : v.ownBlock with
  | none => exact Or.inl rfl
  | some k => exact Or.inr (fun e => by cases e; have := (h.lt _ hv).1; omega)
theorem own_shape {W : World} {base : Nat} {e : TypeId} {z : Nat} {v : Value} {n : Nat} {xs : List Value} (h : W.ownsRow base e z v n xs) : ∃ a c, v = .slice a n c := by
  obtain ⟨_, ⟨rfl, rfl⟩ | ⟨g, c, _, rfl, _⟩⟩ := h
  · exact ⟨none, 0, rfl⟩
  · exact ⟨some ⟨g, 0, none⟩, c, rfl⟩

set_option maxHeartbeats 4000000 in
set_option maxRecDepth 100000 in
theorem logged_any (vl vs : Value) (l : List Ev) (ss : List Bool) (w : World) (hl : EvQ w vl l) (hs : BoQ w vs ss) (h60 : l.length ≤ 60) :
    Calls Try.prog 7 #[vl, vs] w fun r w' => LoT w l r w' := by
  obtain ⟨i0, hi, hz0, hz1, hz2⟩ := info_parts' infoE
  obtain ⟨al, cl, rfl, hcl, hL⟩ := hl
  obtain ⟨as', cs', rfl, hcs, hS⟩ := hs
  have HL := hideIt hL
  have HS := hideIt hS
  clear hL hS
  have HN := hideIt (logIn_new w)
  go_enter Try.func7, Try.ntmps7
  go_wp2
  go_loopw [8, 9, 10] (fun va sv i wr => ∃ (k : Nat) (all : List Ev) (sure : Nat), k ≤ l.length ∧ i = .int .i64 k ∧ sv = .int .i64 (sure : Nat) ∧ LogIn wr w.heap.size all (framesL (all.take sure)).length ∧ sure ≤ all.length ∧ all.length ≤ k ∧
    wr.ownsRow (w.heap.size + 1) 38 7 va all.length (evCells all) ∧ Below w.heap.size w wr) (fun _ _ i _ => l.length - (intOf i).toNat)
  case atStart => exact ⟨0, [], 0, Nat.zero_le _, rfl, rfl, HN.out, Nat.le_refl _, Nat.le_refl _, World.ownsRow_nil _ _ _ _, below_alloc (Below.refl _ _) _⟩
  case round =>
    obtain ⟨k, all, sure, hk, rfl, rfl, hlog, hsu, hal, hown, hnx⟩ := hrel
    have HG := hideIt hlog
    have HO := hideIt hown
    have HX := hideIt hnx
    have hsz := hlog.lt
    clear hlog hown hnx
    by_cases hlt : k < l.length
    · have hev : ∃ bl ol, al = some ⟨bl, ol, none⟩ ∧ ∀ W, Below w.heap.size w W → EvAt W bl (ol + k * 7) l[k] := by
        rcases HL.out with h0 | ⟨bl, ol, h1, h2, h3⟩
        · rw [h0] at hlt; exact absurd hlt (Nat.not_lt_zero _)
        · exact ⟨bl, ol, h1, fun W hW => (h3 k hlt).below h2 hW⟩
      obtain ⟨bl, ol, rfl, hev⟩ := hev
      have HV := hideIt hev
      clear hev
      have HS2 : Hid ((k < ss.length ∧ ∃ bs os, as' = some ⟨bs, os, none⟩ ∧ bs < w.heap.size ∧ ∀ W, Below w.heap.size w W → W.cell? ⟨bs, os + k, none⟩ = some (.bool true)) ∨ (k < ss.length ∧ ∃ bs os, as' = some ⟨bs, os, none⟩ ∧ bs < w.heap.size ∧ ∀ W, Below w.heap.size w W → W.cell? ⟨bs, os + k, none⟩ = some (.bool false)) ∨ ¬ k < ss.length) := by
        by_cases hks : k < ss.length
        · rcases HS.out with h0 | ⟨bs, os, h1, h2, h3⟩
          · rw [h0] at hks; exact absurd hks (Nat.not_lt_zero _)
          · cases hb : ss[k]
            · exact Or.inr (Or.inl ⟨hks, bs, os, h1, h2, fun W hW => by rw [(hW.cell (p := ⟨bs, os + k, none⟩) h2), h3 k hks, hb]⟩)
            · exact Or.inl ⟨hks, bs, os, h1, h2, fun W hW => by rw [(hW.cell (p := ⟨bs, os + k, none⟩) h2), h3 k hks, hb]⟩
        · exact Or.inr (Or.inr hks)
      have HAB := hideIt (fun (h : fltE l[k] ≠ 0) => add_bad w.heap.size l[k] wr h)
      have HAO := hideIt (fun (h : fltE l[k] = 0) => add_ok w.heap.size all _ l[k] wr HG.out h (by omega))
      clear HL HS
      generalize l[k] = e at *
      obtain ⟨c0, c1, c2, c3, c4, c5, c6⟩ := HV.out _ HX.out
      by_cases hf : fltE e = 0
      · have HA := hideIt (HAO.out hf)
        clear HAO HAB
        unfold Ev.agg at HA
        go_wp2_with fail
        refine HA.out.mono ?_
        rintro x w1 ⟨rfl, hl1, hg1⟩
        have HL1 := hideIt hl1
        have HX1 := hideIt (below_grown HX.out hg1 (Nat.le_refl _))
        have HR1 := hideIt (HO.out.kept hg1 (own_not HO.out (by omega)))
        have hsz1 := hl1.lt
        clear hl1 hg1 c0 c1 c2 c3 c4 c5 c6
        obtain ⟨c0, c1, c2, c3, c4, c5, c6⟩ := HV.out _ HX1.out
        go_wp2_with (at_builtin; refine wpList_append_own _ rfl _ _ 22 rfl (w.heap.size + 1) 38 i0 _ 7 56 Try.underlying22 hi hz0 hz1 hz2 rfl (by decide) _ _ _ rfl (HR1.out.alloc _) ⟨w1.heap.size, 0, none⟩ 1 1 [.int .i64 e.p, .int .i64 e.t, .int .i64 e.k, .int .i64 e.d, .int .i64 e.a, .int .i64 e.b, .int .i64 e.r] rfl rfl ?c1 ?c2 ?c3 ?c4 ?c5 ?_)
        case c1 =>
          intro j u hj
          match j, hj with
          | 0, hj => simp at hj; subst hj; simp [Addr.add]
          | 1, hj => simp at hj; subst hj; simp [Addr.add]
          | 2, hj => simp at hj; subst hj; simp [Addr.add]
          | 3, hj => simp at hj; subst hj; simp [Addr.add]
          | 4, hj => simp at hj; subst hj; simp [Addr.add]
          | 5, hj => simp at hj; subst hj; simp [Addr.add]
          | 6, hj => simp at hj; subst hj; simp [Addr.add]
          | n + 7, hj => simp at hj
        case c2 => intro u hu; simp at hu; rcases hu with rfl | rfl | rfl | rfl | rfl | rfl | rfl <;> rfl
        case c3 => unfold maxLen; omega
        case c4 => omega
        case c5 => simp; omega
        intro v2 w2 ho2 hg2 _
        have HR2 : Hid (w2.ownsRow (w.heap.size + 1) 38 7 v2 (all ++ [e]).length (evCells (all ++ [e]))) := by
          show w2.ownsRow (w.heap.size + 1) 38 7 v2 (all ++ [e]).length (evCells (all ++ [e]))
          rw [evCells_snoc, List.length_append]; exact ho2
        have HX2 : Hid (Below w.heap.size w w2) := (below_alloc HX1.out _).grown hg2 (by simp; omega) (fun g hg => Nat.le_trans (by omega) (HR1.out.lt g hg).1)
        have HL2 : Hid (LogIn w2 w.heap.size (all ++ [e]) (framesL ((all ++ [e]).take sure)).length) := by
          show LogIn w2 w.heap.size (all ++ [e]) (framesL ((all ++ [e]).take sure)).length
          rw [List.take_append_of_le_length hsu]
          exact (HL1.out.below (below_alloc (Below.refl _ _) _)).row (HR1.out.alloc _) (by omega) hg2
        clear ho2 hg2 HL1 HR1 HX1 c0 c1 c2 c3 c4 c5 c6 HA
        rcases HS2.out with ⟨hks, bs, os, rfl, hbs, hcs2⟩ | ⟨hks, bs, os, rfl, hbs, hcs2⟩ | hks
        · have d0 := hcs2 _ HX2.out
          have hks' : (k : Int) < (ss.length : Int) := by omega
          go_wp2_with fail
          refine (sync_any _ _ _ _ HL2.out).mono ?_
          rintro x w5 ⟨rfl, hl5, hg5⟩
          have HL5 := hideIt (show LogIn w5 w.heap.size (all ++ [e]) (framesL ((all ++ [e]).take (all ++ [e]).length)).length from by rw [List.take_length]; exact hl5)
          have HR5 := hideIt (HR2.out.kept hg5 (own_not HR2.out (by omega)))
          have HX5 := hideIt (below_grown HX2.out hg5 (Nat.le_refl _))
          clear hl5 hg5
          obtain ⟨ar, cr, hvr⟩ := own_shape HR2.out
          subst hvr
          go_wp2
          go_roundw
          case rel => exact ⟨k + 1, all ++ [e], (all ++ [e]).length, by omega, by go_num, val_int (by simp), HL5.out, Nat.le_refl _, by first | omega | (simp; omega), by first | exact HR5.out | simpa using HR5.out, HX5.out⟩
          case measure => simp [intOf]; omega
        · have d0 := hcs2 _ HX2.out
          have hks' : (k : Int) < (ss.length : Int) := by omega
          go_wp2
          go_roundw
          case rel => exact ⟨k + 1, all ++ [e], sure, by omega, by go_num, rfl, HL2.out, by first | omega | (simp; omega), by first | omega | (simp; omega), HR2.out, HX2.out⟩
          case measure => simp [intOf]; omega
        · have hks' : ¬ (k : Int) < (ss.length : Int) := by omega
          go_wp2
          go_roundw
          case rel => exact ⟨k + 1, all ++ [e], sure, by omega, by go_num, rfl, HL2.out, by first | omega | (simp; omega), by first | omega | (simp; omega), HR2.out, HX2.out⟩
          case measure => simp [intOf]; omega
      · have HA := hideIt (HAB.out hf)
        have ht : toldV (fltE e) = .iface 58 (.int .i64 (fltE e)) := by simp [toldV, hf]
        rw [ht] at HA
        clear HAO HAB ht
        generalize fltE e = ff at *
        unfold Ev.agg at HA
        go_wp2_with fail
        refine HA.out.mono ?_
        rintro x w1 ⟨rfl, hb1⟩
        have HL1 := hideIt (HG.out.below hb1)
        have HX1 := hideIt (below_join HX.out hb1)
        have HR1 := hideIt (HO.out.kept (grown_of_below hb1 none) (own_none _))
        clear hb1 c0 c1 c2 c3 c4 c5 c6 HA
        rcases HS2.out with ⟨hks, bs, os, rfl, hbs, hcs2⟩ | ⟨hks, bs, os, rfl, hbs, hcs2⟩ | hks
        · have d0 := hcs2 _ HX1.out
          have hks' : (k : Int) < (ss.length : Int) := by omega
          go_wp2_with fail
          refine (sync_any _ _ _ _ HL1.out).mono ?_
          rintro x w5 ⟨rfl, hl5, hg5⟩
          have HL5 := hideIt (show LogIn w5 w.heap.size all (framesL ((all).take (all).length)).length from by rw [List.take_length]; exact hl5)
          have HR5 := hideIt (HR1.out.kept hg5 (own_not HR1.out (by omega)))
          have HX5 := hideIt (below_grown HX1.out hg5 (Nat.le_refl _))
          clear hl5 hg5
          obtain ⟨ar, cr, hvr⟩ := own_shape HR1.out
          subst hvr
          go_wp2
          go_roundw
          case rel => exact ⟨k + 1, all, (all).length, by omega, by go_num, rfl, HL5.out, Nat.le_refl _, by first | omega | (simp; omega), by first | exact HR5.out | simpa using HR5.out, HX5.out⟩
          case measure => simp [intOf]; omega
        · have d0 := hcs2 _ HX1.out
          have hks' : (k : Int) < (ss.length : Int) := by omega
          go_wp2
          go_roundw
          case rel => exact ⟨k + 1, all, sure, by omega, by go_num, rfl, HL1.out, by first | omega | (simp; omega), by first | omega | (simp; omega), HR1.out, HX1.out⟩
          case measure => simp [intOf]; omega
        · have hks' : ¬ (k : Int) < (ss.length : Int) := by omega
          go_wp2
          go_roundw
          case rel => exact ⟨k + 1, all, sure, by omega, by go_num, rfl, HL1.out, by first | omega | (simp; omega), by first | omega | (simp; omega), HR1.out, HX1.out⟩
          case measure => simp [intOf]; omega
    · go_wp2
      exact bodyPost_ret (v := .tuple #[.pointer (some ⟨w.heap.size, 0, none⟩), u8, .int .i64 (sure : Nat)]) (by simp [results, Try.results7, go_sem]) rfl ⟨w.heap.size, all, sure, u8, rfl, HG.out, hsu, by omega, HO.out, HX.out, Nat.le_refl _⟩

end Go.Proofs.Ytdncnljcihblbab
