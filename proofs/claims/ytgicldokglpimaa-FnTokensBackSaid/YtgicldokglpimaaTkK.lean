/- The program's functions of the sixteenth chapter. -/
import Derived.Test.YtgicldokglpimaaTkKt
import Derived.Test.YtgicldokglpimaaTkKf
namespace Go.Proofs.Ytgicldokglpimaa
end Go.Proofs.Ytgicldokglpimaa
