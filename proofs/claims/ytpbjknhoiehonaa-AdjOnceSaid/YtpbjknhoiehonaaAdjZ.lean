import Derived.Test.YtpbjknhoiehonaaAdjM
import Derived.Test.YtpbjknhoiehonaaAdjD
set_option linter.unusedVariables false
namespace Go.Proofs.Ytpbjknhoiehonaa
open Go.RowKit
theorem adjspec : AdjSpec AHeld where
  on := fun hb h => h.lt hb
  new := fun n v es W hE hr => by
    obtain ⟨a, c, rfl, _⟩ := id hE
    have h1 := right_ends hr
    obtain ⟨N, rfl⟩ : ∃ N : Nat, n = N := ⟨n.toNat, by omega⟩
    exact anew_right N es a _ c rfl hr W hE
  out := fun B p n es v W _ h h0 h1 => aout_at h v h0 h1
  inn := fun B p n es v W _ h h0 h1 => ain_at h v h0 h1
  edges := fun B p n es W h => aedges_at h
end Go.Proofs.Ytpbjknhoiehonaa
