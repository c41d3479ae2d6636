import Derived.Test.YthfiafjhnidlkaaBPh
import Derived.Test.YthfiafjhnidlkaaBPb
namespace Go.Proofs.Ythfiafjhnidlkaa
open Go.RowKit

end Go.Proofs.Ythfiafjhnidlkaa
