/- Plain: a bit of a number. -/
import Derived.Test.YtlmiebeffdcfhaaBaseB03
namespace Go.Proofs.Ytlmiebeffdcfhaa
def bitN (i q : Nat) : Bool := (i >>> q) % 2 == 1
theorem bit_all : ∀ i : Fin 16, ∀ q : Fin 4, (bits .and .i64 (((i.val : Nat) : Int) / 2 ^ q.val) 1 == 1) = bitN i.val q.val := by decide +kernel
theorem bit_bits {i q : Nat} (hi : i < 16) (hq : q < 4) : (bits .and .i64 ((i : Int) / 2 ^ q) 1 == 1) = bitN i q := bit_all ⟨i, hi⟩ ⟨q, hq⟩
end Go.Proofs.Ytlmiebeffdcfhaa
