/-
  The model's test of a program.
-/
import Derived.Test.YtjfeipgeppegcaaPgS1
namespace Go.Proofs.Ytjfeipgeppegcaa
open Go.RowKit Go.Deep

end Go.Proofs.Ytjfeipgeppegcaa
