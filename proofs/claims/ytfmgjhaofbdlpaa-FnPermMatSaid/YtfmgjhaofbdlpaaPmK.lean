/- The program's functions of the eighth chapter, together. -/
import Derived.Test.YtfmgjhaofbdlpaaPmKc
import Derived.Test.YtfmgjhaofbdlpaaPmKm
import Derived.Test.YtfmgjhaofbdlpaaPmU
import Derived.Test.YtfmgjhaofbdlpaaBaseB14
import Derived.Test.YtfmgjhaofbdlpaaBaseB08
namespace Go.Proofs.Ytfmgjhaofbdlpaa
end Go.Proofs.Ytfmgjhaofbdlpaa
