/-
  The laws' conversions, comparisons and marks of links, fixed heads, fractions and numbers.
-/
import Derived.Test.YtlocpliljkgfnaaDoorNtMem
import Derived.Test.YtlocpliljkgfnaaDoorReg
namespace Go.Proofs.YtlocpliljkgfnaaDoor
open Go.RowKit Go.Deep





end Go.Proofs.YtlocpliljkgfnaaDoor
