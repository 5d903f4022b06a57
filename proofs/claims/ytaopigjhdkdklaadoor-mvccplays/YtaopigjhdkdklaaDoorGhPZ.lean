/-
  Chapter 10 in plain Lean: the order of nodes, what goes round, groups. (Nothing of the program in it.)
  Chapter 12 in plain Lean: a story of transactions, its edges; one copy: in an order that keeps all edges each reads what it reads.
-/

namespace Go.Proofs.YtaopigjhdkdklaaDoor

/-! ### the order -/
theorem sub_len : ∀ {A B : List Nat}, A.Nodup → A ⊆ B → A.length ≤ B.length
  | [], B, _, _ => Nat.zero_le _
  | x :: A, B, hn, hs => by
    obtain ⟨hx, hn⟩ := List.nodup_cons.1 hn
    have hxB : x ∈ B := hs (List.mem_cons_self ..)
    have h1 := sub_len (A := A) (B := B.erase x) hn fun y hy => (List.mem_erase_of_ne (show y ≠ x from fun e => hx (by rw [← e]; exact hy))).2 (hs (List.mem_cons_of_mem _ hy))
    rw [List.length_erase_of_mem hxB] at h1
    have := List.length_pos_of_mem hxB
    simp
    omega

/-! ### where there is no order, something goes round -/

/-! ### groups -/

/-! ### ways round -/
end Go.Proofs.YtaopigjhdkdklaaDoor

namespace Go.Proofs.YtaopigjhdkdklaaDoor

structure IOp where
  wr : Bool
  key : Int
  frm : Int
  num : Int
structure ITx where
  ops : List IOp
  com : Bool
structure ISt where
  txs : List ITx
  ord : List (List Int)
/-- How often one writes a key. -/
def wroT (t : ITx) (key : Int) : Nat := t.ops.countP fun o => o.wr && o.key == key

end Go.Proofs.YtaopigjhdkdklaaDoor
