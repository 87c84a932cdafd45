/- The program's contracts of the ninth chapter. -/
import Derived.Test.YtgknokaibgckkaaGtKd
namespace Go.Proofs.Ytgknokaibgckkaa
end Go.Proofs.Ytgknokaibgckkaa
