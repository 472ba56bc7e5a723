import Derived.Test.YtmfdhcnnhlchbabC01
import Derived.Test.YtmfdhcnnhlchbabC24
namespace Go.Proofs.Ytmfdhcnnhlchbab
open Go.RowKit

theorem known_holds : Rows.KnownSaid :=
  known_over fun w => known_true.mono fun _ _ ⟨he, g⟩ => ⟨he, ⟨g.os, g.tape, g.output, g.size, fun k hk => g.block k hk (by simp)⟩⟩

#print axioms known_holds
end Go.Proofs.Ytmfdhcnnhlchbab
