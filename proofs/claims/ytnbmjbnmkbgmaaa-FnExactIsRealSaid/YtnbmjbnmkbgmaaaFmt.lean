/- spec.FormatInt writes the decimal numeral. -/
import Derived.Test.YtnbmjbnmkbgmaaaConv
import Derived.Test.YtnbmjbnmkbgmaaaNum
import Derived.WalkKit
import Derived.WalkSpells
import Derived.WalkLawsBesides
import Derived.Lib.Hide
namespace Go.Proofs.Ytnbmjbnmkbgmaaa
open Go.RowKit
end Go.Proofs.Ytnbmjbnmkbgmaaa
