/- The laws' helpers over states, as the laws' walks take them. -/
import Derived.Test.YtgknokaibgckkaaDsO
import Derived.Test.YtgknokaibgckkaaDsM
import Derived.Test.YtgknokaibgckkaaDsD
import Derived.Test.YtgknokaibgckkaaDsC
import Derived.Test.YtgknokaibgckkaaDsE
namespace Go.Proofs.Ytgknokaibgckkaa
open Go.RowKit
theorem DsIn.mono {w : World} {B C : Nat} {a0 : Option Addr} {l : List Dw} (h : DsIn w B a0 l) (hC : B ≤ C) : DsIn w C a0 l :=
  ⟨h.1, h.2.1, fun h0 => by obtain ⟨b, off, e, hlt, hc⟩ := h.2.2 h0; exact ⟨b, off, e, by omega, hc⟩⟩
theorem DsIn.eb {w : World} {B : Nat} {a0 : Option Addr} {l : List Dw} (h : DsIn w B a0 l) : Eb l := h.2.1
theorem mid_low {B C : Nat} {a w w' : World} (h : Below a.heap.size a w) (m : Mid B C w w') (hB : a.heap.size ≤ B) : Below a.heap.size a w' := h.trans (m.1.mono hB)
end Go.Proofs.Ytgknokaibgckkaa
