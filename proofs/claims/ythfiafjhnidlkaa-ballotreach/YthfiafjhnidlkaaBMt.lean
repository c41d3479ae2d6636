import Derived.Test.YthfiafjhnidlkaaBMj
import Derived.Test.YthfiafjhnidlkaaBPn
import Derived.Deep.DeepCutAuto
namespace Go.Proofs.Ythfiafjhnidlkaa
open Go.RowKit

end Go.Proofs.Ythfiafjhnidlkaa
