/-
  The laws' conversions, comparisons and marks of links, fixed heads, fractions and numbers.
-/
import Derived.Test.YteeieoggmoobiaaDoorNtMem
import Derived.Test.YteeieoggmoobiaaDoorReg
namespace Go.Proofs.YteeieoggmoobiaaDoor
open Go.RowKit Go.Deep





end Go.Proofs.YteeieoggmoobiaaDoor
