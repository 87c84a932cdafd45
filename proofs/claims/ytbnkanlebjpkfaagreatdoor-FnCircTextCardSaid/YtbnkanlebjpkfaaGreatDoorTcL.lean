/- The program's contracts of the twelfth chapter on circuits, as FnCircText's walk wants them. -/
import Derived.Test.YtbnkanlebjpkfaaGreatDoorTcLh
import Derived.Test.YtbnkanlebjpkfaaGreatDoorTcLq
namespace Go.Proofs.YtbnkanlebjpkfaaGreatDoor
open Go.RowKit Go.Lib
theorem ifmtCw (B : Nat) (n : Int) (v : Value) (L : List Gt) (w : World) (h0 : LW w) (hv : gtE.Sl w B v L) (hm : L.length ≤ 1048576) (n0 : -9223372036854775808 ≤ n) (n1 : n ≤ 9223372036854775807) :
    Calls Tryz.prog 6 #[.agg #[.int .i64 n, v]] w fun e w' => e = .returned (.string (cTxt n L)) ∧ Below w.heap.size w w' := ifmtC B n v L w h0.pow h0.names hv hm n0 n1
theorem iparCw (s : ByteArray) (w : World) (h0 : LW w) (hs : s.size ≤ 1048576) :
    Calls Tryz.prog 7 #[.string s] w fun e w' => (∃ v, e = .returned (.tuple #[.agg #[.int .i64 (pcV s).1, v], .bool (pcB s)]) ∧ gtE.Sl w' w.heap.size v (pcV s).2) ∧ Below w.heap.size w w' := iparC s w hs h0
end Go.Proofs.YtbnkanlebjpkfaaGreatDoor
