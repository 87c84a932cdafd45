/- The laws' helpers over states, as the laws' walks take them. -/
import Derived.Test.YtbohbhhgmglcdaaDsO
import Derived.Test.YtbohbhhgmglcdaaDsM
import Derived.Test.YtbohbhhgmglcdaaDsD
import Derived.Test.YtbohbhhgmglcdaaDsC
import Derived.Test.YtbohbhhgmglcdaaDsE
namespace Go.Proofs.Ytbohbhhgmglcdaa
open Go.RowKit
theorem DsIn.mono {w : World} {B C : Nat} {a0 : Option Addr} {l : List Dw} (h : DsIn w B a0 l) (hC : B ≤ C) : DsIn w C a0 l :=
  ⟨h.1, h.2.1, fun h0 => by obtain ⟨b, off, e, hlt, hc⟩ := h.2.2 h0; exact ⟨b, off, e, by omega, hc⟩⟩
theorem DsIn.eb {w : World} {B : Nat} {a0 : Option Addr} {l : List Dw} (h : DsIn w B a0 l) : Eb l := h.2.1
theorem toDsB (a0 : Option Addr) (cap B : Nat) (l : List Dw) (w : World) (hin : DsIn w B a0 l) (hB : B ≤ w.heap.size) (hn2 : l.length ≤ 1048576) :
    Calls Try.prog 35 #[.slice a0 l.length cap] w fun e w' => ∃ v, e = .returned v ∧ DSl w' w.heap.size v l ∧ Below w.heap.size w w' := toDs a0 cap l w (hin.mono hB) hn2
theorem szFit (a0 : Option Addr) (n cap : Nat) (l : Int) (w : World) (h : (n : Int) ≤ l) (l0 : 0 ≤ l) (l1 : l ≤ 1048576) :
    Calls Try.prog 33 #[.slice a0 n cap, .int .i64 l] w fun e w' => e = .returned (.int .i64 (l - n)) ∧ w = w' := by
  have h2 := szDs a0 n cap l w (by unfold maxLen; omega) l0 l1
  rwa [if_pos h] at h2
theorem szBig (a0 : Option Addr) (n cap : Nat) (l : Int) (w : World) (hn : n ≤ maxLen) (h : ¬ (n : Int) ≤ l) (l0 : 0 ≤ l) (l1 : l ≤ 1048576) :
    Calls Try.prog 33 #[.slice a0 n cap, .int .i64 l] w fun e w' => e = .returned (.int .i64 (-1)) ∧ w = w' := by
  have h2 := szDs a0 n cap l w hn l0 l1
  rwa [if_neg h] at h2
theorem mark1 (B C : Nat) (v : Value) (l : List Dw) (w : World) (hv : DSc w B C v l) (hm : l.length ≤ 1048576) :
    Calls Try.prog 38 #[v, .int .i64 1] w fun e w' => e = .returned (.int .i64 (1 + (l.length : Int) * 5)) ∧ DSc w' B C v (marks 1 l.length) ∧ Mid B C w w' := by
  refine (markDs B C 1 v l w hv hm (by omega)).mono ?_
  rintro e w1 ⟨rfl, h⟩
  exact ⟨by simp, h⟩
theorem mark2 (B C m : Nat) (v : Value) (l : List Dw) (w : World) (hv : DSc w B C v l) (hm : l.length ≤ 1048576) (hm' : m ≤ 1048576) :
    Calls Try.prog 38 #[v, .int .i64 (1 + (m : Int) * 5)] w fun e w' => e = .returned (.int .i64 (1 + (m : Int) * 5 + (l.length : Int) * 5)) ∧ DSc w' B C v (marks (1 + m * 5) l.length) ∧ Mid B C w w' := by
  have h := markDs B C (1 + m * 5) v l w hv hm (by omega)
  rw [show ((1 + m * 5 : Nat) : Int) = 1 + (m : Int) * 5 by simp] at h
  refine h.mono ?_
  rintro e w1 ⟨rfl, h⟩
  exact ⟨by simp, h⟩
theorem held1 (B n : Nat) (v : Value) (w : World) (hv : DSl w B v (marks 1 n)) (hm : n ≤ 1048576) :
    Calls Try.prog 39 #[v, .int .i64 1] w fun e w' => e = .returned (.int .i64 (1 + (n : Int) * 5)) ∧ w = w' := by
  refine (heldDs B 1 n v w hv hm (by omega)).mono ?_
  rintro e w1 ⟨rfl, h⟩
  exact ⟨by simp, h⟩
theorem mid_low {B C : Nat} {a w w' : World} (h : Below a.heap.size a w) (m : Mid B C w w') (hB : a.heap.size ≤ B) : Below a.heap.size a w' := h.trans (m.1.mono hB)
theorem sscaleC (C B : Nat) (v : Value) (l : List Dw) (x : Dw) (w : World) (hv : DSl w B v l) (hm : l.length ≤ 1048576) (hC : C ≤ w.heap.size) :
    Calls Try.prog 30 #[v, (.agg #[.int .i64 x.n.a, .int .i64 x.n.b, .int .i64 x.n.c, .int .i64 x.n.d, .int .i64 x.e])] w fun e w' => (∃ u, e = .returned (.tuple #[u, .bool (scaleB l x)]) ∧ DSl w' C u (scaleL l x)) ∧ Below w.heap.size w w' := by
  refine (sscale B v l x w hv hm).mono ?_
  rintro e w1 ⟨⟨u, rfl, hd⟩, hb⟩
  exact ⟨⟨u, rfl, hd.mono hC⟩, hb⟩
theorem sequal_self (B C : Nat) (v u : Value) (a : List Dw) (w : World) (hv : DSl w B v a) (hu : DSl w C u a) (hm : a.length ≤ 1048576) :
    Calls Try.prog 17 #[v, u] w fun e w' => e = .returned (.bool true) ∧ Below w.heap.size w w' := by
  have h := sequalSt B C v u a a w hv hu hm hm
  rwa [decide_eq_true rfl] at h
end Go.Proofs.Ytbohbhhgmglcdaa
