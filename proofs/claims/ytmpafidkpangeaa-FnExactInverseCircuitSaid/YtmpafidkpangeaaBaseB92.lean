/- BaseB92: several of our texts in one: CiKj CiKi. -/
import Derived.Test.YtmpafidkpangeaaBaseB24
import Derived.RangeFuncNested
import Derived.RangeFuncBound
import Derived.RangeFuncCalls
import Derived.RangeFuncLeaves
import Derived.Shelf.Abstract
import Derived.Shelf.RegionOpen
import Derived.OwnWalkIn
import Derived.TacticsInMore
import Derived.LoopNIn
import Derived.LoopIn
import Derived.Test.YtmpafidkpangeaaBaseB23
import Derived.RangeFuncBox
namespace Go.Proofs.Ytmpafidkpangeaa
open Go.RowKit Go.Shelf
attribute [local go_sem] Oper.semAt_some
/-- What has come of a list that is walked backwards, after k rounds: each with its index. -/
def bwd (L : List Gt) (k : Nat) : List (Nat × Gt) := (List.range k).map fun j => (L.length - (j + 1), L.getD (L.length - (j + 1)) zeroG)
theorem bwd_succ (L : List Gt) (k : Nat) : bwd L (k + 1) = bwd L k ++ [(L.length - (k + 1), L.getD (L.length - (k + 1)) zeroG)] := by simp [bwd, List.range_succ]
theorem bwd_len (L : List Gt) (k : Nat) : (bwd L k).length = k := by simp [bwd]
theorem bwd_inv (L : List Gt) : (bwd L L.length).map (fun x => invG x.2) = invL L := by
  apply List.ext_getElem
  · rw [List.length_map, bwd_len, invL_len]
  · intro i h1 h2
    rw [List.length_map, bwd_len] at h1
    have hx : L[L.length - (i + 1)]? = some L[L.length - (i + 1)] := List.getElem?_eq_getElem (by omega)
    have h := invL_at hx
    rw [show L.length - (L.length - (i + 1) + 1) = i by omega, List.getElem?_eq_getElem h2] at h
    rw [Option.some.inj h, List.getElem_map]
    unfold bwd
    rw [List.getElem_map, List.getElem_range, List.getD_eq_getElem?_getD, hx]
    rfl
/-- What a round keeps: what lay below n₀; the box of the slice. -/
def KpB (n₀ Bs : Nat) (W W' : World) : Prop := Below n₀ W W' ∧ W'.heap[Bs]? = W.heap[Bs]?
theorem KpB.trans {n₀ Bs : Nat} {A B C : World} (h : KpB n₀ Bs A B) (k : KpB n₀ Bs B C) : KpB n₀ Bs A C := ⟨h.1.trans k.1, k.2.trans h.2⟩
theorem KpB.refl {n₀ Bs : Nat} (A : World) : KpB n₀ Bs A A := ⟨Below.refl _ _, rfl⟩
theorem kpB_b {n₀ Bs : Nat} {w : World} (hn : n₀ ≤ w.heap.size) (hB : Bs < w.heap.size) (W : World) (l : Nat) (o o' : Obj) (hl : w.heap.size ≤ l) (h : W.heap[l]? = some o) (hc : o.isCells = false) (hw : o.isWalk = false) : KpB n₀ Bs W (W.putObj l o') :=
  ⟨belowK_b hn W l o o' hl h hc hw, (grownBy_putObj' W l o').block Bs (by have := (Array.getElem?_eq_some_iff.1 h).1; omega) (fun e => by cases e; omega)⟩
attribute [local irreducible] World.cell?
set_option maxRecDepth 100000 in
set_option maxHeartbeats 3200000 in
theorem ibwd1 (F : Fence) (n : Nat) (hF : F.fn 82) (hro : F.round = none) (hn : 1 ≤ n) (l Bs n₀ cap : Nat) (a : Option Addr) (L : List Gt) (hm : L.length ≤ 1048576) (J Jx : List (Nat × Gt) → World → Prop)
    (hY : ∀ pre x W, J pre W → pre.length < L.length → YieldAt F (n - 1) Try.prog l #[.int .i64 (x.1 : Int), (.agg #[.int .i64 x.2.k, .int .i64 x.2.a, .int .i64 x.2.b, .int .i64 x.2.c])] W fun e W' =>
      (e = .returned (.bool true) ∧ J (pre ++ [x]) W' ∧ KpB n₀ Bs W W') ∨ (e = .returned (.bool false) ∧ Jx (pre ++ [x]) W'))
    (W : World) (hBs : W.heap[Bs]? = some (.cells #[.slice a L.length cap] 24 (0, 0))) (hc : 0 < L.length → ∃ g, a = some ⟨g, 0, none⟩ ∧ g < n₀ ∧ gtE.Row W g L) (h0 : J [] W) :
    CallsIn F n Try.prog 82 #[.func (.yield l) #[] #[], .pointer (some ⟨Bs, 0, none⟩)] W fun e W' => (∃ v, e = .returned v) ∧
      ((∃ ys, ys = bwd L L.length ∧ J ys W') ∨ (∃ pre, (∃ k, k ≤ L.length ∧ pre = bwd L k) ∧ Jx pre W')) := by
  have HB := Lib.hid hBs
  have Hc := Lib.hid hc
  have s0 := cell_at hBs 0 _ rfl
  have hsl := lt_of_block hBs
  clear hBs hc
  refine callsIn_of_wp Try.func82 rfl hF ?_ hro
  simp only [Try.ntmps82, List.size_toArray, List.length_cons, List.length_nil, Nat.reduceAdd, Nat.reduceSub, Array.replicate_succ, Array.replicate_zero, List.push_toArray, List.append_toArray, List.nil_append, List.cons_append]
  gi_wp2
  gi_loopw [3] (fun i wr => ∃ r : Nat, r ≤ L.length ∧ i = .int .i64 ((r : Int) - 1) ∧ J (bwd L (L.length - r)) wr ∧ Hid (KpB n₀ Bs W wr))
    (fun i _ => (intOf i + 1).toNat)
  case atStart => exact ⟨L.length, Nat.le_refl _, by go_num, by rw [Nat.sub_self]; exact h0, Lib.hid (KpB.refl _)⟩
  case round =>
    obtain ⟨r, hr, hii, hJs, HK⟩ := hrel
    have hBr := (HK.out.2).trans HB.out
    have s1 := cell_at hBr 0 _ rfl
    have hsl1 := lt_of_block hBr
    clear hBr
    cases r with
    | zero =>
      rw [show ((0 : Nat) : Int) - 1 = -1 from rfl] at hii
      subst hii
      gi_wp2
      go_end0
      exact ⟨⟨_, rfl⟩, .inl ⟨_, rfl, hJs⟩⟩
    | succ q =>
      rw [show ((q + 1 : Nat) : Int) - 1 = (q : Int) by simp] at hii
      subst hii
      obtain ⟨g, rfl, hg, hrow⟩ := Hc.out (by omega)
      obtain ⟨x, hx⟩ : ∃ x, L[q]? = some x := ⟨L[q]'(by omega), List.getElem?_eq_getElem _⟩
      have r1 := hrow.below HK.out.1 hg
      obtain ⟨c0, c1, c2, c3⟩ := GRow.cells r1 hx
      have hgl := r1.lt
      have hyd : (q, x) = (L.length - (L.length - (q + 1) + 1), L.getD (L.length - (L.length - (q + 1) + 1)) zeroG) := by
        rw [show L.length - (L.length - (q + 1) + 1) = q by omega, List.getD_eq_getElem?_getD, hx]; rfl
      obtain ⟨fn, tmps, assign, body, hy, hR⟩ := hY _ (q, x) wr hJs (by rw [bwd_len]; omega)
      dsimp only at hy
      have HR := Lib.hid hR
      have Hst := Lib.hid (show bwd L (L.length - (q + 1)) ++ [(q, x)] = bwd L (L.length - q) by
        rw [hyd, ← bwd_succ, show L.length - (q + 1) + 1 = L.length - q by omega])
      clear hx r1 hrow hR hyd
      gi_wp2
      refine (HR.out).mono ?_
      rintro e W3 (⟨rfl, hJ3, hk3⟩ | ⟨rfl, hJx3⟩)
      · have HK3 := Lib.hid (HK.out.trans hk3)
        rw [Hst.out] at hJ3
        clear hk3 c0 c1 c2 c3 s1 hsl1
        gi_wp2
        go_roundw
        case rel => exact ⟨q, by omega, by go_num, hJ3, HK3⟩
        case measure => simp [intOf]
      · rw [Hst.out] at hJx3
        gi_wp2
        refine bodyPost_ret (results_none rfl _ _ _) rfl ?_
        exact ⟨⟨_, rfl⟩, .inr ⟨_, ⟨_, by omega, rfl⟩, hJx3⟩⟩
/-- slices.Backward of a slice of gates, as a sequence. -/
theorem ibwd_stops (F : Fence) (n : Nat) (hF : F.fn 82) (hro : F.round = none) (hn : 1 ≤ n) (Bs n₀ cap : Nat) (a : Option Addr) (L : List Gt) (hm : L.length ≤ 1048576) (w : World) (hn₀ : n₀ ≤ w.heap.size)
    (hBs : w.heap[Bs]? = some (.cells #[.slice a L.length cap] 24 (0, 0))) (hc : 0 < L.length → ∃ g, a = some ⟨g, 0, none⟩ ∧ g < n₀ ∧ gtE.Row w g L) :
    SeqStopsK F n Try.prog 82 #[.pointer (some ⟨Bs, 0, none⟩)] (fun x : Nat × Gt => #[Value.int .i64 (x.1 : Int), (.agg #[.int .i64 x.2.k, .int .i64 x.2.a, .int .i64 x.2.b, .int .i64 x.2.c])]) (KpB n₀ Bs) (fun ys => ys = bwd L L.length) (fun pre => ∃ k, k ≤ L.length ∧ pre = bwd L k) L.length w := fun l J Jx W hW _ _ hY h0 =>
  ibwd1 F n hF hro hn l Bs n₀ cap a L hm J Jx hY W ((hW.block _ (lt_of_block hBs)).trans hBs) (fun h => by obtain ⟨g, e, hg, hr⟩ := hc h; exact ⟨g, e, hg, hr.below (hW.mono hn₀) hg⟩) h0
set_option maxRecDepth 100000 in
set_option maxHeartbeats 1600000 in
theorem ibwd (a : Option Addr) (k cap : Nat) (w : World) :
    Calls Try.prog 44 #[.slice a k cap] w fun e w' => e = .returned (.func (.func 82) #[] #[.pointer (some ⟨w.heap.size, 0, none⟩)]) ∧ w' = w.alloc (.cells #[.slice a k cap] 24) := by
  go_enter Try.func44, Try.ntmps44
  go_wp2_with fail
  go_ret
  exact ⟨rfl, rfl⟩
end Go.Proofs.Ytmpafidkpangeaa
namespace Go.Proofs.Ytmpafidkpangeaa
open Go.RowKit Go.Shelf
attribute [local go_sem] Oper.semAt_some
theorem blk_keepI {W W' : World} {row : Option Nat} {g : Nat} {cs : Array Value} {t : TypeId} {f : Nat × Nat} (h : W.heap[g]? = some (.cells cs t f)) (hg : W.grownBy W' row) (hr : ∀ r, row = some r → ∃ o : Obj, W.heap[r]? = some o ∧ o.isCells = false) : W'.heap[g]? = some (.cells cs t f) :=
  (hg.block g (lt_of_block h) fun e => by obtain ⟨o, ho, hc⟩ := hr g e.symm; rw [h] at ho; cases ho; cases hc).trans h
theorem own_keepI {W W' : World} {row : Option Nat} {base : Nat} {e : TypeId} {size : Nat} {v : Value} {k : Nat} {xs : List Value} (h : W.ownsRow base e size v k xs) (hg : W.grownBy W' row) (hr : ∀ r, row = some r → ∃ o : Obj, W.heap[r]? = some o ∧ o.isCells = false) : W'.ownsRow base e size v k xs := by
  refine h.kept hg ?_
  rcases h.2 with ⟨rfl, _⟩ | ⟨g, cap, cur, rfl, _, hgb, _⟩
  · exact .inl rfl
  · refine .inr fun e' => ?_
    obtain ⟨o, ho, hc⟩ := hr g (by simpa [Value.ownBlock] using e'.symm)
    rw [hgb] at ho; cases ho; cases hc
/-- The draft while the circuit is walked backwards. -/
def InvI (w : World) (b : Nat) (n : Int) (a : Option Addr) (k cap : Nat) (pre : List (Nat × Gt)) (W : World) : Prop :=
  ((∃ ov, W.heap[b]? = some (.cells #[.int .i64 n, ov] 68 (0, 0)) ∧ W.ownsRow (b + 1) 44 4 ov pre.length (gtE.flat (pre.map fun x => invG x.2))) ∧ W.heap[b + 1]? = some (.cells #[.slice a k cap] 24 (0, 0)) ∧ W.heap[w.heap.size + 1]? = some (.cells #[.int .i64 0, .slice none 0 0] 26 (0, 0))) ∧ Below w.heap.size w W
theorem InvI.own {w : World} {b : Nat} {n : Int} {a : Option Addr} {k cap B : Nat} (hB : w.heap.size ≤ B) : OwnFrom B (InvI w b n a k cap) :=
  OwnFrom.and (fun _ _ _ _ ⟨⟨ov, h1, h2⟩, h3, h4⟩ hg hr => ⟨⟨ov, blk_keepI h1 hg fun r e => (hr r e).2, own_keepI h2 hg fun r e => (hr r e).2⟩, blk_keepI h3 hg fun r e => (hr r e).2, blk_keepI h4 hg fun r e => (hr r e).2⟩) (ownFrom_below (Nat.le_refl _) hB)
attribute [local irreducible] World.cell?
set_option maxRecDepth 100000 in
set_option maxHeartbeats 6400000 in
theorem iinvC_yes (B : Nat) (n : Int) (v : Value) (L : List Gt) (w : World) (hv : gtE.Sl w B v L) (hm : L.length ≤ 1048576) (n0 : -9223372036854775808 ≤ n) (n1 : n ≤ 9223372036854775807) (hc : ciB n L = true) :
    Calls Try.prog 13 #[.agg #[.int .i64 n, v]] w fun e w' => ∃ r, e = .returned (.agg #[.int .i64 n, r]) ∧ gtE.Sl w' w.heap.size r (invL L) ∧ Below w.heap.size w w' := by
  have HV := Lib.hid hv
  have H1 := Lib.hid (fun W (h : gtE.Sl W B v L) => ivalidC B n v L W h hm n0 n1)
  rw [hc] at H1
  obtain ⟨pa, ca, hpa, -, hr⟩ := id hv
  have Hrow := Lib.hid hr
  clear hv hr hc
  subst hpa
  have Hb0 := Lib.hid (show Below w.heap.size w ((w.alloc (.cells #[.int .i64 n, .slice pa L.length ca] 26)).alloc (.cells #[.int .i64 0, .slice none 0 0] 26)) by go_grown)
  have HX := Lib.hid (alloc_blk (.cells #[.int .i64 0, .slice none 0 0] 26) (heap_alloc_new w (.cells #[.int .i64 n, .slice pa L.length ca] 26)))
  have HR := Lib.hid (show ((w.alloc (.cells #[.int .i64 n, .slice pa L.length ca] 26)).alloc (.cells #[.int .i64 0, .slice none 0 0] 26)).heap[w.heap.size + 1]? = some (.cells #[.int .i64 0, .slice none 0 0] 26 (0, 0)) by
    simpa using heap_alloc_new (w.alloc (.cells #[.int .i64 n, .slice pa L.length ca] 26)) (.cells #[.int .i64 0, .slice none 0 0] 26))
  obtain ⟨c0, c1⟩ := blk_cells2 HX.out
  have hxl := lt_of_block HX.out
  refine (callsIn_wide (n := 3)).1 ?_
  refine callsIn_of_wp_marks Try.func13 rfl trivial ?_ rfl
  simp only [Try.ntmps13, List.size_toArray, List.length_cons, List.length_nil, Nat.reduceAdd, Nat.reduceSub, Array.replicate_succ, Array.replicate_zero, List.push_toArray, List.append_toArray, List.nil_append, List.cons_append]
  gi_wp2_with fail
  refine ⟨trivial, (callsIn_wide.2 (H1.out _ (HV.out.below Hb0.out))).mono ?_⟩
  rintro e w1 ⟨rfl, hb1⟩
  have HX1 := Lib.hid (below_blk hb1 (lt_of_block HX.out) HX.out)
  have HR1 := Lib.hid (below_blk hb1 (lt_of_block HR.out) HR.out)
  have Hb1 := Lib.hid (below_nx Hb0.out hb1)
  clear hb1 c0 c1 hxl H1 HX HR Hb0
  obtain ⟨c0, c1⟩ := blk_cells2 HX1.out
  have hxl := lt_of_block HX1.out
  have hrl := lt_of_block HR1.out
  have hs1 := Hb1.out.size
  gi_wp2_with fail
  refine ⟨trivial, (callsIn_wide.2 (ibwd _ _ _ _)).mono ?_⟩
  rintro e w' ⟨rfl, rfl⟩
  gi_wp2_with fail
  have hz1 : ∀ o : Obj, (w1.alloc o).heap.size = w1.heap.size + 1 := fun o => by simp
  have HO2 := Lib.hid (alloc_blk (.cells #[.slice pa L.length ca] 24) (heap_alloc_new w1 (.cells #[.int .i64 n, .slice none 0 0] 68)))
  have HS2 := Lib.hid (show ((w1.alloc (.cells #[.int .i64 n, .slice none 0 0] 68)).alloc (.cells #[.slice pa L.length ca] 24)).heap[w1.heap.size + 1]? = some (.cells #[.slice pa L.length ca] 24 (0, 0)) by
    rw [← hz1 (.cells #[.int .i64 n, .slice none 0 0] 68)]; exact heap_alloc_new _ _)
  have HR2 := Lib.hid (alloc_blk (.cells #[.slice pa L.length ca] 24) (alloc_blk (.cells #[.int .i64 n, .slice none 0 0] 68) HR1.out))
  have Hb2 := Lib.hid ((Hb1.out.alloc hs1 (.cells #[.int .i64 n, .slice none 0 0] 68)).alloc (by rw [hz1]; omega) (.cells #[.slice pa L.length ca] 24))
  have hz2 : ((w1.alloc (.cells #[.int .i64 n, .slice none 0 0] 68)).alloc (.cells #[.slice pa L.length ca] 24)).heap.size = w1.heap.size + 2 := by simp
  have HV2 := Lib.hid (fun h => by obtain ⟨g, e, _, hr⟩ := Hrow.out h; exact (⟨g, e, hr.lt, hr.below Hb2.out hr.lt⟩ : ∃ g, pa = some ⟨g, 0, none⟩ ∧ g < w.heap.size ∧ gtE.Row _ g L))
  have Hown2 := Lib.hid (World.ownsRow_nil ((w1.alloc (.cells #[.int .i64 n, .slice none 0 0] 68)).alloc (.cells #[.slice pa L.length ca] 24)) (w1.heap.size + 1) 44 4)
  obtain ⟨W0, hW0⟩ : ∃ W0, (w1.alloc (.cells #[.int .i64 n, .slice none 0 0] 68)).alloc (.cells #[.slice pa L.length ca] 24) = W0 := ⟨_, rfl⟩
  rw [hW0] at HO2 HS2 HR2 Hb2 hz2 HV2 Hown2 ⊢
  have HF := Lib.hid (fun v p k c W h => ifinished n v p k c W h)
  clear hW0 c0 c1 hxl
  refine wpIn_rangeFunc_ownH rfl (by omega) (gf := 82) (lb := #[.pointer (some ⟨w1.heap.size + 1, 0, none⟩)]) rfl trivial (enters_of Try.func82 (by kernel_rfl) rfl)
    (ibwd_stops Fence.wide _ trivial rfl (by omega) (w1.heap.size + 1) w.heap.size ca pa L hm W0 (by omega) HS2.out HV2.out) KpB.trans (kpB_b (by omega) (by omega)) (Below.refl _ _) (fun _ => rfl)
    (InvI w w1.heap.size n pa L.length ca) (fun _ _ _ => False) (InvI.own (by omega)) (fun _ _ _ _ _ hs _ _ => hs)
    ⟨⟨⟨_, HO2.out, Hown2.out⟩, HS2.out, HR2.out⟩, Hb2.out⟩
    (fun x a' W => ∃ Bx, W0.heap.size ≤ Bx ∧ W.heap[Bx]? = some (.cells #[.int .i64 x.2.k, .int .i64 x.2.a, .int .i64 x.2.b, .int .i64 x.2.c] 44) ∧ a' = { tmps := #[.agg #[.int .i64 n, .slice pa L.length ca], .pointer (some ⟨w.heap.size, 0, none⟩), .pointer (some ⟨w.heap.size + 1, 0, none⟩), .pointer (some ⟨w1.heap.size, 0, none⟩), undef, .pointer (some ⟨Bx, 0, none⟩), .agg #[.int .i64 n, .slice pa L.length ca], .bool true, .bool false, undef, .pointer (some ⟨w.heap.size, 0, none⟩), .int .i64 n, .agg #[.int .i64 n, .slice none 0 0], .pointer (some ⟨w.heap.size, 1, none⟩), .slice pa L.length ca, .func (.func 82) #[] #[.pointer (some ⟨w1.heap.size + 1, 0, none⟩)], .int .i64 (x.1 : Int), (.agg #[.int .i64 x.2.k, .int .i64 x.2.a, .int .i64 x.2.b, .int .i64 x.2.c]), undef, undef, undef, undef, undef, undef, undef], defers := [] })
    (fun x a' _ W W' row hs hg hr => by obtain ⟨Bx, h1, h2, h3⟩ := hs; exact ⟨Bx, h1, blk_keepI h2 hg fun r e => (hr r e).2, h3⟩) ?assign ?body ?done ?stop
  case assign =>
    intro l pre x W K hi hK
    gi_wp2_with fail
    have hsW : W0.heap.size ≤ W.heap.size := by have := lt_of_block hi.1.2.1; omega
    exact hK _ _ ((KeepsOthers.alloc _ _).from _) ⟨(Below.refl _ W).alloc (by omega) _, Below.heap_alloc _ _ _ (by omega)⟩ ((InvI.own (by omega)).alloc _ hi) ⟨W.heap.size, hsW, heap_alloc_new W _, rfl⟩
  case body =>
    rintro l pre x a' W hl ⟨r, hr⟩ ⟨⟨⟨ov, hO, hown⟩, hS, hR⟩, hB⟩ ⟨Bx, hBx, hX, rfl⟩ hlt
    obtain ⟨x0, x1, x2, x3⟩ := blk_cells hX
    have hxl := lt_of_block hX
    have hol := lt_of_block hO
    have hsl := lt_of_block hS
    have HO3 := Lib.hid hO
    have HS3 := Lib.hid hS
    have HR3 := Lib.hid hR
    have HB3 := Lib.hid hB
    have Hown3 := Lib.hid hown
    have hsW := hB.size
    clear hO hS hR hB hown hX hr
    gi_wp2_with fail
    refine ⟨trivial, (CallsIn.inRound l (callsIn_wide.2 (iinvG x.2 W))).mono ?_⟩
    rintro e w4 ⟨rfl, hb4⟩
    have HO4 := Lib.hid (alloc_blk (.cells #[.int .i64 (invG x.2).k, .int .i64 (invG x.2).a, .int .i64 (invG x.2).b, .int .i64 (invG x.2).c] 44) (below_blk hb4 (lt_of_block HO3.out) HO3.out))
    have HS4 := Lib.hid (alloc_blk (.cells #[.int .i64 (invG x.2).k, .int .i64 (invG x.2).a, .int .i64 (invG x.2).b, .int .i64 (invG x.2).c] 44) (below_blk hb4 (lt_of_block HS3.out) HS3.out))
    have HR4 := Lib.hid (alloc_blk (.cells #[.int .i64 (invG x.2).k, .int .i64 (invG x.2).a, .int .i64 (invG x.2).b, .int .i64 (invG x.2).c] 44) (below_blk hb4 (lt_of_block HR3.out) HR3.out))
    have Hown4 := Lib.hid ((row_below Hown3.out hb4).alloc (.cells #[.int .i64 (invG x.2).k, .int .i64 (invG x.2).a, .int .i64 (invG x.2).b, .int .i64 (invG x.2).c] 44))
    have hs4 := hb4.size
    have HbW := Lib.hid (hb4.alloc hs4 (.cells #[.int .i64 (invG x.2).k, .int .i64 (invG x.2).a, .int .i64 (invG x.2).b, .int .i64 (invG x.2).c] 44))
    have HB4 := Lib.hid (below_nx HB3.out HbW.out)
    have Hnew := Lib.hid (show gtE.Sl (w4.alloc (.cells #[.int .i64 (invG x.2).k, .int .i64 (invG x.2).a, .int .i64 (invG x.2).b, .int .i64 (invG x.2).c] 44)) w4.heap.size (.slice (some ⟨w4.heap.size, 0, none⟩) 1 1) [invG x.2] from Enc.Sl.mk rfl (Nat.le_refl _) (Nat.le_refl _) ⟨_, heap_alloc_new w4 _, rfl⟩)
    have hfl : gtE.flat (pre.map fun x => invG x.2) ++ gtE.flat [invG x.2] = gtE.flat ((pre ++ [x]).map fun x => invG x.2) := by rw [List.map_append, gtE.flat_app]; rfl
    have hln : pre.length + [invG x.2].length = (pre ++ [x]).length := by simp
    clear hb4 x0 x1 x2 x3 hxl
    gi_wp2_with fail
    refine ⟨trivial, (CallsIn.inRound l (callsIn_wide.2 (iadd w4.heap.size w1.heap.size n ov (.slice (some ⟨w4.heap.size, 0, none⟩) 1 1) pre.length _ [invG x.2] _ HO4.out Hown4.out Hnew.out (by simp; omega)))).mono ?_⟩
    rintro e w5 ⟨rfl, ⟨v5, hO5, hown5⟩, hb5, hz5, hk5⟩
    rw [hfl, hln] at hown5
    gi_wp2_with fail
    have hkeep : ∀ g o, (w4.alloc (.cells #[.int .i64 (invG x.2).k, .int .i64 (invG x.2).a, .int .i64 (invG x.2).b, .int .i64 (invG x.2).c] 44)).heap[g]? = some o → (∀ cs t f, o ≠ Obj.cells cs t f) → w5.heap[g]? = some o := fun g o ho hc => by
      refine hk5 g o ho (fun e => ?_) (own_other Hown4.out ho fun cs f => hc cs _ f)
      subst e; rw [HO4.out] at ho; exact hc _ _ _ (Option.some.inj ho).symm
    have hS5 := hk5 _ _ HS4.out (by omega) (own_other Hown4.out HS4.out fun cs f e => by injection e with _ e2; exact absurd e2 (by decide))
    have hR5 := hk5 _ _ HR4.out (by omega) (own_other Hown4.out HR4.out fun cs f e => by injection e with _ e2; exact absurd e2 (by decide))
    refine ⟨⟨?_, fun g o _ ho hc => hkeep g o (below_blk HbW.out (lt_of_block ho) ho) fun cs t f e => by subst e; cases hc⟩, ⟨?_, ?_⟩, ⟨⟨v5, hO5, hown5⟩, hS5, hR5⟩, ?_⟩
    · have := HbW.out.size; omega
    · exact (HbW.out.mono (by omega)).trans (hb5.mono (by omega))
    · exact hS5.trans HS3.out.symm
    · exact HB4.out.trans (hb5.mono (by omega))
  case done =>
    rintro D ys W hD rfl ⟨⟨⟨ov, hO, hown⟩, hS, hR⟩, hB⟩ hK
    rw [bwd_inv, bwd_len] at hown
    obtain ⟨po, co, hov⟩ : ∃ q c, ov = .slice q L.length c := by
      rcases hown.2 with ⟨h, h'⟩ | ⟨g, cap, cur, h, _⟩
      · exact ⟨none, 0, by rw [h', h]⟩
      · exact ⟨_, _, h⟩
    subst hov
    obtain ⟨o0, o1⟩ := blk_cells2 hO
    have hol := lt_of_block hO
    have HRd := Lib.hid hR
    have HBd := Lib.hid hB
    have Hownd := Lib.hid hown
    have HKd := Lib.hid hK
    clear hO hR hB hown hK hS
    gi_wp2_with fail
    refine ⟨trivial, (callsIn_wide.2 (HF.out _ _ _ _ _ rfl)).mono ?_⟩
    rintro e w6 ⟨rfl, hb6⟩
    have HR6 := Lib.hid (below_blk hb6 (lt_of_block HRd.out) HRd.out)
    have HK6 := Lib.hid (below_blk hb6 (lt_of_block HKd.out) HKd.out)
    have Hown6 := Lib.hid (row_below Hownd.out hb6)
    have HB6 := Lib.hid (below_nx HBd.out hb6)
    obtain ⟨r0, r1⟩ := blk_cells2 HR6.out
    have fR := fun o => free_at HR6.out o
    have hrl6 := lt_of_block HR6.out
    have hDn : D ≠ w.heap.size + 1 := by omega
    clear o0 o1 hol hb6
    gi_wp2_with fail
    have hK' := set1_blk (off := 1) (u := .slice po L.length co) hDn (set1_blk (off := 0) (u := .int .i64 n) hDn HK6.out)
    have h2 := set2_at (u0 := .int .i64 n) (u1 := .slice po L.length co) HR6.out
    have h3 := blk_keepI h2 (grownBy_putObj' _ D (.deferred none)) (fun r e => by cases e; exact ⟨_, hK', rfl⟩)
    obtain ⟨k0, k1⟩ := blk_cells2 h3
    have hv' : ∀ g, (Value.slice po L.length co).ownBlock = some g → g ≠ w.heap.size + 1 := fun q hq e => by have := (Hown6.out.lt q hq).1; omega
    refine ⟨by simp, .inl ⟨_, _, rfl, run_takeDeferred hK', ?_⟩⟩
    refine ⟨.agg #[.int .i64 n, .slice po L.length co], ?_, _, rfl, ?_, ?_⟩
    · simp only [results, Try.results13]
      simp [go_sem, k0, k1]
    · have h := ownsRow_putObj (row_set1 (u := .slice po L.length co) (off := 1) (row_set1 (u := .int .i64 n) (off := 0) Hown6.out hv') hv') (.deferred none) hK' rfl
      rw [← invL_len L] at h
      have hs := (Enc.Sl.of_own (E := gtE) h).mono (show w.heap.size ≤ w1.heap.size + 1 by omega)
      rw [invL_len] at hs
      exact hs
    · exact ((HB6.out.setCell (p := ⟨w.heap.size + 1, 0, none⟩) (by simp) _).setCell (p := ⟨w.heap.size + 1, 1, none⟩) (by simp) _).trans (belowK_b (w := w) (Nat.le_refl _) _ D _ _ (by omega) hK' rfl rfl)
  case stop =>
    rintro D c pre W _ _ h _
    exact h.elim
set_option maxRecDepth 100000 in
set_option maxHeartbeats 3200000 in
theorem iinvC_no (B : Nat) (n : Int) (v : Value) (L : List Gt) (w : World) (hv : gtE.Sl w B v L) (hm : L.length ≤ 1048576) (n0 : -9223372036854775808 ≤ n) (n1 : n ≤ 9223372036854775807) (hc : ciB n L = false) :
    Calls Try.prog 13 #[.agg #[.int .i64 n, v]] w fun e w' => ∃ r, e = .returned (.agg #[.int .i64 0, r]) ∧ gtE.Sl w' w.heap.size r [] ∧ Below w.heap.size w w' := by
  have HV := Lib.hid hv
  have H1 := Lib.hid (fun W (h : gtE.Sl W B v L) => ivalidC B n v L W h hm n0 n1)
  rw [hc] at H1
  obtain ⟨pa, ca, hpa, -, -⟩ := id hv
  clear hv hc
  subst hpa
  have Hb0 := Lib.hid (show Below w.heap.size w ((w.alloc (.cells #[.int .i64 n, .slice pa L.length ca] 26)).alloc (.cells #[.int .i64 0, .slice none 0 0] 26)) by go_grown)
  have HX := Lib.hid (alloc_blk (.cells #[.int .i64 0, .slice none 0 0] 26) (heap_alloc_new w (.cells #[.int .i64 n, .slice pa L.length ca] 26)))
  have HR := Lib.hid (show ((w.alloc (.cells #[.int .i64 n, .slice pa L.length ca] 26)).alloc (.cells #[.int .i64 0, .slice none 0 0] 26)).heap[w.heap.size + 1]? = some (.cells #[.int .i64 0, .slice none 0 0] 26 (0, 0)) by
    simpa using heap_alloc_new (w.alloc (.cells #[.int .i64 n, .slice pa L.length ca] 26)) (.cells #[.int .i64 0, .slice none 0 0] 26))
  obtain ⟨c0, c1⟩ := blk_cells2 HX.out
  have hxl := lt_of_block HX.out
  go_enter Try.func13, Try.ntmps13
  go_wp2_with fail
  refine (H1.out _ (HV.out.below Hb0.out)).mono ?_
  rintro e w1 ⟨rfl, hb1⟩
  have HR1 := Lib.hid (below_blk hb1 (lt_of_block HR.out) HR.out)
  have Hb1 := Lib.hid (below_nx Hb0.out hb1)
  clear hb1 c0 c1 hxl
  obtain ⟨r0, r1⟩ := blk_cells2 HR1.out
  have fR := fun o => free_at HR1.out o
  have hrl := lt_of_block HR1.out
  have hs1 := Hb1.out.size
  go_wp2_with fail
  obtain ⟨k0, k1⟩ := blk_cells2 (set2_at (u0 := .int .i64 0) (u1 := .slice none 0 0) HR1.out)
  refine bodyPost_ret (v := .agg #[.int .i64 0, .slice none 0 0]) (by simp only [results, Try.results13]; simp [go_sem, k0, k1]) rfl ⟨_, rfl, Enc.Sl.nil, ?_⟩
  have := Hb1.out
  go_grown
theorem iinvC (B : Nat) (n : Int) (v : Value) (l : List Gt) (w : World) (hv : gtE.Sl w B v l) (hm : l.length ≤ 1048576) (n0 : -9223372036854775808 ≤ n) (n1 : n ≤ 9223372036854775807) : Calls Try.prog 13 #[.agg #[.int .i64 n, v]] w fun e w' => ∃ r, e = .returned (.agg #[.int .i64 (icN n l), r]) ∧ gtE.Sl w' w.heap.size r (icL n l) ∧ Below w.heap.size w w' := by
  unfold icN icL
  cases hc : ciB n l with
  | false => exact iinvC_no B n v l w hv hm n0 n1 hc
  | true => exact iinvC_yes B n v l w hv hm n0 n1 hc
end Go.Proofs.Ytmpafidkpangeaa
