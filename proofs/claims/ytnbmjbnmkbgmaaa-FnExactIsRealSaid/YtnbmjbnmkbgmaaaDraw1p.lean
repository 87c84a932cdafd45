/- A choice out of a list of strings. -/
import Derived.Test.YtnbmjbnmkbgmaaaDraw1
namespace Go.Proofs.Ytnbmjbnmkbgmaaa
open Go.RowKit
end Go.Proofs.Ytnbmjbnmkbgmaaa
