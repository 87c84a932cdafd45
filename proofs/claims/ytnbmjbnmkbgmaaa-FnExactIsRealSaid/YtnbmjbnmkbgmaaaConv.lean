/- One byte made a string. -/
import Derived.Test.YtnbmjbnmkbgmaaaRows
import Derived.WalkKit
import Derived.WalkSpells
import Derived.WalkLawsBesides
import Derived.Lib.Hide
import Derived.OneCell
import Derived.WalkSmall
namespace Go.Proofs.Ytnbmjbnmkbgmaaa
open Go.RowKit
theorem conv_one (x : UInt8) (v : Int) (hv : v = (x.toNat : Int)) (w : World) : (convert 22 9 (.slice (some ⟨w.heap.size, 0, none⟩) 1 1)).run Try.prog (w.alloc (.cells #[.int .u8 v] 5)) = .ok (.string ⟨#[x]⟩) (w.alloc (.cells #[.int .u8 v] 5)) := by
  rw [run_convert_bytes_string _ _ _ 5 _ _ _ Try.underlying22 Try.underlying5 Try.underlying9]
  rw [run_bytesToString _ _ _ _ [v] ?_]
  · subst hv
    simp [ByteArray.empty, ByteArray.push, ByteArray.emptyWithCapacity]
    rfl
  · have := run_loadCells_list (P := Try.prog) (w := w.alloc (.cells #[.int .u8 v] 5)) ⟨w.heap.size, 0, none⟩ [.int .u8 v] (fun j u hj => by
      match j, hj with
      | 0, hj => simp at hj; subst hj; simp [Addr.add])
    simpa using this
theorem app_one (x : UInt8) (l : List UInt8) : (ByteArray.mk #[x] ++ ByteArray.mk l.toArray) = ByteArray.mk (x :: l).toArray := ByteArray.mk_append_mk [x] l
end Go.Proofs.Ytnbmjbnmkbgmaaa
