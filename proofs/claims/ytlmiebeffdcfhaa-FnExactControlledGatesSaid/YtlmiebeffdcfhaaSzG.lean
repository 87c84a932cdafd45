/- Sizes of the laws' slices of gates. -/
import Derived.Test.YtlmiebeffdcfhaaGsL
namespace Go.Proofs.Ytlmiebeffdcfhaa
open Go.RowKit
theorem GsIn.of_slice {w : World} {B n cap : Nat} {a : Option Addr} {l : List Gt} (h : gtE.Sl w B (.slice a n cap) l) (hm : l.length ≤ 1048576) : GsIn w w.heap.size a l := by
  obtain ⟨a', cap', e, h'⟩ := GsIn.of_sl h hm
  injection e with e1
  rw [e1]
  exact h'
theorem GsIn.empty {w : World} {B : Nat} {a : Option Addr} {l : List Gt} (h : l.length = 0) : GsIn w B a l := ⟨by omega, fun h0 => absurd h0 (by omega)⟩
theorem GsIn.drop_slice {w : World} {B n cap k : Nat} {a : Option Addr} {l : List Gt} (h : gtE.Sl w B (.slice a n cap) l) (hm : l.length ≤ 1048576) : GsIn w w.heap.size (Option.map (fun x => x.add (k * 4)) a) (l.drop k) := by
  by_cases h0 : 0 < l.length
  · have hg := GsIn.of_slice h hm
    obtain ⟨a', cap', e, -, h3⟩ := h
    injection e with e1
    obtain ⟨g, e2, -, -⟩ := h3 h0
    subst e1 e2
    have hd := hg.drop k
    have ha : (⟨g, 0, none⟩ : Addr).add (k * 4) = ⟨g, 0 + k * 4, none⟩ := by
      unfold Addr.add
      by_cases hk : k * 4 = 0
      · simp [hk]
      · simp [hk]
    rw [Option.map_some, ha]
    exact hd
  · exact GsIn.empty (by rw [List.length_drop]; omega)
theorem szGfit (a0 : Option Addr) (n cap : Nat) (l : Int) (w : World) (h : (n : Int) ≤ l) (l0 : 0 ≤ l) (l1 : l ≤ 1048576) :
    Calls Try.prog 12 #[.slice a0 n cap, .int .i64 l] w fun e w' => e = .returned (.int .i64 (l - n)) ∧ w = w' := by
  have h2 := szGs a0 n cap l w (by unfold maxLen; omega) l0 l1
  rwa [if_pos h] at h2
theorem szGbig (a0 : Option Addr) (n cap : Nat) (l : Int) (w : World) (hn : n ≤ maxLen) (h : ¬ (n : Int) ≤ l) (l0 : 0 ≤ l) (l1 : l ≤ 1048576) :
    Calls Try.prog 12 #[.slice a0 n cap, .int .i64 l] w fun e w' => e = .returned (.int .i64 (-1)) ∧ w = w' := by
  have h2 := szGs a0 n cap l w hn l0 l1
  rwa [if_neg h] at h2
end Go.Proofs.Ytlmiebeffdcfhaa
