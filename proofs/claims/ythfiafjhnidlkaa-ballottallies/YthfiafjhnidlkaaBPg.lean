import Derived.Test.YthfiafjhnidlkaaBPa
import Derived.Test.YthfiafjhnidlkaaBThr
namespace Go.Proofs.Ythfiafjhnidlkaa
open Go.RowKit

end Go.Proofs.Ythfiafjhnidlkaa
