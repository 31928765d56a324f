/-
  The laws' conversions, comparisons and marks of links, fixed heads, fractions and numbers.
-/
import Derived.Test.YtokbhkcpkilcmaaNtMem
import Derived.Test.YtokbhkcpkilcmaaReg
namespace Go.Proofs.Ytokbhkcpkilcmaa
open Go.RowKit Go.Deep





end Go.Proofs.Ytokbhkcpkilcmaa
