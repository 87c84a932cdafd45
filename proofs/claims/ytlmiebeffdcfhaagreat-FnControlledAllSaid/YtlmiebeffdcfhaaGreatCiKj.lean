/- slices.Backward of gates, as a sequence. -/
import Derived.Test.YtlmiebeffdcfhaaGreatBaseC02
import Derived.Test.YtlmiebeffdcfhaaGreatBaseC05
import Derived.RangeFuncNested
import Derived.RangeFuncBound
import Derived.RangeFuncCalls
import Derived.RangeFuncLeaves
import Derived.Shelf.Abstract
import Derived.Shelf.RegionOpen
import Derived.OwnWalkIn
import Derived.TacticsInMore
import Derived.LoopNIn
import Derived.LoopIn
namespace Go.Proofs.YtlmiebeffdcfhaaGreat
open Go.RowKit Go.Shelf
attribute [local go_sem] Oper.semAt_some
/-- What has come of a list that is walked backwards, after k rounds: each with its index. -/
def bwd (L : List Gt) (k : Nat) : List (Nat × Gt) := (List.range k).map fun j => (L.length - (j + 1), L.getD (L.length - (j + 1)) zeroG)
theorem bwd_succ (L : List Gt) (k : Nat) : bwd L (k + 1) = bwd L k ++ [(L.length - (k + 1), L.getD (L.length - (k + 1)) zeroG)] := by simp [bwd, List.range_succ]
theorem bwd_len (L : List Gt) (k : Nat) : (bwd L k).length = k := by simp [bwd]
theorem bwd_inv (L : List Gt) : (bwd L L.length).map (fun x => invG x.2) = invL L := by
  apply List.ext_getElem
  · rw [List.length_map, bwd_len, invL_len]
  · intro i h1 h2
    rw [List.length_map, bwd_len] at h1
    have hx : L[L.length - (i + 1)]? = some L[L.length - (i + 1)] := List.getElem?_eq_getElem (by omega)
    have h := invL_at hx
    rw [show L.length - (L.length - (i + 1) + 1) = i by omega, List.getElem?_eq_getElem h2] at h
    rw [Option.some.inj h, List.getElem_map]
    unfold bwd
    rw [List.getElem_map, List.getElem_range, List.getD_eq_getElem?_getD, hx]
    rfl
/-- What a round keeps: what lay below n₀; the box of the slice. -/
def KpB (n₀ Bs : Nat) (W W' : World) : Prop := Below n₀ W W' ∧ W'.heap[Bs]? = W.heap[Bs]?
theorem KpB.trans {n₀ Bs : Nat} {A B C : World} (h : KpB n₀ Bs A B) (k : KpB n₀ Bs B C) : KpB n₀ Bs A C := ⟨h.1.trans k.1, k.2.trans h.2⟩
theorem KpB.refl {n₀ Bs : Nat} (A : World) : KpB n₀ Bs A A := ⟨Below.refl _ _, rfl⟩
theorem kpB_b {n₀ Bs : Nat} {w : World} (hn : n₀ ≤ w.heap.size) (hB : Bs < w.heap.size) (W : World) (l : Nat) (o o' : Obj) (hl : w.heap.size ≤ l) (h : W.heap[l]? = some o) (hc : o.isCells = false) (hw : o.isWalk = false) : KpB n₀ Bs W (W.putObj l o') :=
  ⟨belowK_b hn W l o o' hl h hc hw, (grownBy_putObj' W l o').block Bs (by have := (Array.getElem?_eq_some_iff.1 h).1; omega) (fun e => by cases e; omega)⟩
attribute [local irreducible] World.cell?
set_option maxRecDepth 100000 in
set_option maxHeartbeats 3200000 in
theorem ibwd1 (F : Fence) (n : Nat) (hF : F.fn 128) (hro : F.round = none) (hn : 1 ≤ n) (l Bs n₀ cap : Nat) (a : Option Addr) (L : List Gt) (hm : L.length ≤ 1048576) (J Jx : List (Nat × Gt) → World → Prop)
    (hY : ∀ pre x W, J pre W → pre.length < L.length → YieldAt F (n - 1) Tryz.prog l #[.int .i64 (x.1 : Int), (.agg #[.int .i64 x.2.k, .int .i64 x.2.a, .int .i64 x.2.b, .int .i64 x.2.c])] W fun e W' =>
      (e = .returned (.bool true) ∧ J (pre ++ [x]) W' ∧ KpB n₀ Bs W W') ∨ (e = .returned (.bool false) ∧ Jx (pre ++ [x]) W'))
    (W : World) (hBs : W.heap[Bs]? = some (.cells #[.slice a L.length cap] 28 (0, 0))) (hc : 0 < L.length → ∃ g, a = some ⟨g, 0, none⟩ ∧ g < n₀ ∧ gtE.Row W g L) (h0 : J [] W) :
    CallsIn F n Tryz.prog 128 #[.func (.yield l) #[] #[], .pointer (some ⟨Bs, 0, none⟩)] W fun e W' => (∃ v, e = .returned v) ∧
      ((∃ ys, ys = bwd L L.length ∧ J ys W') ∨ (∃ pre, (∃ k, k ≤ L.length ∧ pre = bwd L k) ∧ Jx pre W')) := by
  have HB := Lib.hid hBs
  have Hc := Lib.hid hc
  have s0 := cell_at hBs 0 _ rfl
  have hsl := lt_of_block hBs
  clear hBs hc
  refine callsIn_of_wp Tryz.func128 rfl hF ?_ hro
  simp only [Tryz.ntmps128, List.size_toArray, List.length_cons, List.length_nil, Nat.reduceAdd, Nat.reduceSub, Array.replicate_succ, Array.replicate_zero, List.push_toArray, List.append_toArray, List.nil_append, List.cons_append]
  gi_wp2
  gi_loopw [3] (fun i wr => ∃ r : Nat, r ≤ L.length ∧ i = .int .i64 ((r : Int) - 1) ∧ J (bwd L (L.length - r)) wr ∧ Hid (KpB n₀ Bs W wr))
    (fun i _ => (intOf i + 1).toNat)
  case atStart => exact ⟨L.length, Nat.le_refl _, by go_num, by rw [Nat.sub_self]; exact h0, Lib.hid (KpB.refl _)⟩
  case round =>
    obtain ⟨r, hr, hii, hJs, HK⟩ := hrel
    have hBr := (HK.out.2).trans HB.out
    have s1 := cell_at hBr 0 _ rfl
    have hsl1 := lt_of_block hBr
    clear hBr
    cases r with
    | zero =>
      rw [show ((0 : Nat) : Int) - 1 = -1 from rfl] at hii
      subst hii
      gi_wp2
      go_end0
      exact ⟨⟨_, rfl⟩, .inl ⟨_, rfl, hJs⟩⟩
    | succ q =>
      rw [show ((q + 1 : Nat) : Int) - 1 = (q : Int) by simp] at hii
      subst hii
      obtain ⟨g, rfl, hg, hrow⟩ := Hc.out (by omega)
      obtain ⟨x, hx⟩ : ∃ x, L[q]? = some x := ⟨L[q]'(by omega), List.getElem?_eq_getElem _⟩
      have r1 := hrow.below HK.out.1 hg
      obtain ⟨c0, c1, c2, c3⟩ := GRow.cells r1 hx
      have hgl := r1.lt
      have hyd : (q, x) = (L.length - (L.length - (q + 1) + 1), L.getD (L.length - (L.length - (q + 1) + 1)) zeroG) := by
        rw [show L.length - (L.length - (q + 1) + 1) = q by omega, List.getD_eq_getElem?_getD, hx]; rfl
      obtain ⟨fn, tmps, assign, body, hy, hR⟩ := hY _ (q, x) wr hJs (by rw [bwd_len]; omega)
      dsimp only at hy
      have HR := Lib.hid hR
      have Hst := Lib.hid (show bwd L (L.length - (q + 1)) ++ [(q, x)] = bwd L (L.length - q) by
        rw [hyd, ← bwd_succ, show L.length - (q + 1) + 1 = L.length - q by omega])
      clear hx r1 hrow hR hyd
      gi_wp2
      refine (HR.out).mono ?_
      rintro e W3 (⟨rfl, hJ3, hk3⟩ | ⟨rfl, hJx3⟩)
      · have HK3 := Lib.hid (HK.out.trans hk3)
        rw [Hst.out] at hJ3
        clear hk3 c0 c1 c2 c3 s1 hsl1
        gi_wp2
        go_roundw
        case rel => exact ⟨q, by omega, by go_num, hJ3, HK3⟩
        case measure => simp [intOf]
      · rw [Hst.out] at hJx3
        gi_wp2
        refine bodyPost_ret (results_none rfl _ _ _) rfl ?_
        exact ⟨⟨_, rfl⟩, .inr ⟨_, ⟨_, by omega, rfl⟩, hJx3⟩⟩
/-- slices.Backward of a slice of gates, as a sequence. -/
theorem ibwd_stops (F : Fence) (n : Nat) (hF : F.fn 128) (hro : F.round = none) (hn : 1 ≤ n) (Bs n₀ cap : Nat) (a : Option Addr) (L : List Gt) (hm : L.length ≤ 1048576) (w : World) (hn₀ : n₀ ≤ w.heap.size)
    (hBs : w.heap[Bs]? = some (.cells #[.slice a L.length cap] 28 (0, 0))) (hc : 0 < L.length → ∃ g, a = some ⟨g, 0, none⟩ ∧ g < n₀ ∧ gtE.Row w g L) :
    SeqStopsK F n Tryz.prog 128 #[.pointer (some ⟨Bs, 0, none⟩)] (fun x : Nat × Gt => #[Value.int .i64 (x.1 : Int), (.agg #[.int .i64 x.2.k, .int .i64 x.2.a, .int .i64 x.2.b, .int .i64 x.2.c])]) (KpB n₀ Bs) (fun ys => ys = bwd L L.length) (fun pre => ∃ k, k ≤ L.length ∧ pre = bwd L k) L.length w := fun l J Jx W hW _ _ hY h0 =>
  ibwd1 F n hF hro hn l Bs n₀ cap a L hm J Jx hY W ((hW.block _ (lt_of_block hBs)).trans hBs) (fun h => by obtain ⟨g, e, hg, hr⟩ := hc h; exact ⟨g, e, hg, hr.below (hW.mono hn₀) hg⟩) h0
set_option maxRecDepth 100000 in
set_option maxHeartbeats 1600000 in
theorem ibwd (a : Option Addr) (k cap : Nat) (w : World) :
    Calls Tryz.prog 99 #[.slice a k cap] w fun e w' => e = .returned (.func (.func 128) #[] #[.pointer (some ⟨w.heap.size, 0, none⟩)]) ∧ w' = w.alloc (.cells #[.slice a k cap] 28) := by
  go_enter Tryz.func99, Tryz.ntmps99
  go_wp2_with fail
  go_ret
  exact ⟨rfl, rfl⟩
end Go.Proofs.YtlmiebeffdcfhaaGreat
