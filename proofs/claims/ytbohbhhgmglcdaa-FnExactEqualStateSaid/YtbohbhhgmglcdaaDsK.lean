/- The program's functions of the sixth chapter, together. -/
import Derived.Test.YtbohbhhgmglcdaaDsKd
namespace Go.Proofs.Ytbohbhhgmglcdaa
end Go.Proofs.Ytbohbhhgmglcdaa
