/-
  The program's base tells what a base is asked to.
-/
import Derived.Test.YtaopigjhdkdklaaDoorPsMZ
import Derived.Test.YtaopigjhdkdklaaDoorPwAZ
import Derived.Test.YtaopigjhdkdklaaDoorMvD
namespace Go.Proofs.YtaopigjhdkdklaaDoor
open Go.RowKit

def PBr (w0 W : World) (B : Nat) (c : Bool) (n : Nat) (st : MvS) (S : Nat → Prop) : Prop := ∃ k : PrK, k.B = B ∧ S = k.own n ∧ PrB w0 W k c n st
theorem baseSt : BaseSt PBr where
  new := fun n c W hn => (new_any n c W hn).mono fun e W' ⟨k, he, hp, hl⟩ => ⟨k.B, k.own n, he, ⟨k, rfl, rfl, hp⟩, hl⟩
  bel := fun ⟨_, _, _, hp⟩ => hp.bel
  lt := fun ⟨_, _, hS, hp⟩ b hb => hp.own_lt (by rw [← hS]; exact hb)
  keep := fun ⟨k, hB, hS, hp⟩ hb hk => ⟨k, hB, hS, hp.keep hb fun b hb' => hk b (by rw [hS]; exact hb')⟩
  doo := fun ⟨k, hB, hS, hp⟩ hI hn htm p kd m => by
    subst hB
    subst hS
    refine (do_any hp hI hn htm p kd m).mono ?_
    rintro e W' ⟨k', he, hp', hf⟩
    exact ⟨k'.own _, he, ⟨k', hf.1, rfl, hp'⟩, hf.2.1, hf.2.2.1, hf.2.2.2⟩
  story := fun ⟨k, hB, _, hp⟩ hI hn => by
    subst hB
    exact story_any hp hI hn
  spans := fun ⟨k, hB, _, hp⟩ _ hn => by
    subst hB
    exact spans_any hp hn
end Go.Proofs.YtaopigjhdkdklaaDoor
