/- The program's FormatDOmega and ParseDOmega in a world that holds the library's tables. -/
import Derived.Test.YtggmcahglcnleaaDoorDwTD
import Derived.Test.YtggmcahglcnleaaDoorTxR
import Derived.Test.YtggmcahglcnleaaDoorDwN
import Derived.Test.YtggmcahglcnleaaDoorTxO
import Derived.Test.YtggmcahglcnleaaDoorBaseB
namespace Go.Proofs.YtggmcahglcnleaaDoor
open Go.RowKit
/-- The table of powers of ten and the two errors. -/
def LW (w : World) : Prop := HasPow w ∧ HasErrs w
theorem LW.below {w w' : World} (h : LW w) (hb : Below w.heap.size w w') : LW w' := ⟨h.1.below hb, h.2.below hb⟩
theorem iformat_lw (x : Dw) (w : World) (h0 : -9223372036854775808 ≤ x.e) (h1 : x.e ≤ 9223372036854775807) (hL : LW w) :
    Calls Tryd.prog 8 #[(.agg #[.int .i64 x.n.a, .int .i64 x.n.b, .int .i64 x.n.c, .int .i64 x.n.d, .int .i64 x.e])] w fun e w' => e = .returned (.string (textD x)) ∧ Below w.heap.size w w' := iformat_any x w h0 h1 hL.1
theorem iparse_lw (s : ByteArray) (w : World) (hs : s.size ≤ 1048576) (hL : LW w) :
    Calls Tryd.prog 9 #[.string s] w fun e w' => e = .returned (.tuple #[(.agg #[.int .i64 (parseV s).n.a, .int .i64 (parseV s).n.b, .int .i64 (parseV s).n.c, .int .i64 (parseV s).n.d, .int .i64 (parseV s).e]), .bool (parseB s)]) ∧ Below w.heap.size w w' := iparse_any s w hs hL.1 hL.2
end Go.Proofs.YtggmcahglcnleaaDoor
