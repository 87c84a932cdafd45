/- The program's ParseDOmega: the fields read one by one, the fraction checked. -/
import Derived.Test.YtggmcahglcnleaaDoorTxK
import Derived.Test.YtggmcahglcnleaaDoorBaseB
import Derived.Test.YtggmcahglcnleaaDoorDwY
namespace Go.Proofs.YtggmcahglcnleaaDoor
open Go.RowKit Go.Lib
theorem ipint (q : ByteArray) (w : World) (hs : q.size ≤ 1048576) (hp : HasPow w) (he : HasErrs w) :
    Calls Tryd.prog 23 #[.string q] w fun e w' => e = .returned (.tuple #[.int .i64 (fldV q), .bool (fldB q)]) ∧ Below w.heap.size w w' := by
  cases h : fldB q
  · obtain ⟨h0, h1⟩ := num_false h
    rw [h0]
    exact pint_no q (by omega) h1 w hp he
  · obtain ⟨h0, h1, h2⟩ := num_yes h
    exact pint_yes q (fldV q) h2 (by omega) (by omega) h0 h1 w hp
/-- The five cells of the numbers that have been read. -/
def ncells (vs : List Int) : Array Value := #[.int .i64 (vs.getD 0 0), .int .i64 (vs.getD 1 0), .int .i64 (vs.getD 2 0), .int .i64 (vs.getD 3 0), .int .i64 (vs.getD 4 0)]
theorem ncells_get (vs : List Int) {k : Nat} (h : k < 5) : (ncells vs)[k]? = some (.int .i64 (vs.getD k 0)) := by
  rcases (show k = 0 ∨ k = 1 ∨ k = 2 ∨ k = 3 ∨ k = 4 by omega) with rfl | rfl | rfl | rfl | rfl <;> rfl
theorem ncells_set (vs : List Int) (v : Int) (h : vs.length < 5) : (ncells vs).setIfInBounds vs.length (.int .i64 v) = ncells (vs ++ [v]) := by
  match vs, h with
  | [], _ => rfl
  | [_], _ => rfl
  | [_, _], _ => rfl
  | [_, _, _], _ => rfl
  | [_, _, _, _], _ => rfl
def NBox (w : World) (g : Nat) (vs : List Int) : Prop := w.heap[g]? = some (.cells (ncells vs) 54 (0, 0))
theorem NBox.set {w : World} {g j : Nat} {vs : List Int} (h : NBox w g vs) (hj : vs.length = j) (v : Int) (hl : j < 5) : NBox (w.setCell ⟨g, j, none⟩ (.int .i64 v)) g (vs ++ [v]) := by
  subst hj
  unfold NBox
  rw [← ncells_set vs v hl]
  exact heap_set h _ _
/-- The k-th of five texts. -/
def at5 (q0 q1 q2 q3 q4 : List UInt8) (k : Nat) : List UInt8 := if k = 0 then q0 else if k = 1 then q1 else if k = 2 then q2 else if k = 3 then q3 else q4
theorem idx5 (q0 q1 q2 q3 q4 : List UInt8) (j : Nat) (h : j < 5) (w : World) :
    (Instr.index 51 (.agg #[.string (toB q0), .string (toB q1), .string (toB q2), .string (toB q3), .string (toB q4)]) (.int .i64 j)).run Tryd.prog w = .ok (.string (toB (at5 q0 q1 q2 q3 q4 j))) w := by
  rcases (show j = 0 ∨ j = 1 ∨ j = 2 ∨ j = 3 ∨ j = 4 by omega) with rfl | rfl | rfl | rfl | rfl <;> kernel_rfl
theorem five_all {P : Nat → Prop} (h : ∀ k, k < 5 → P k) : P 0 ∧ P 1 ∧ P 2 ∧ P 3 ∧ P 4 := ⟨h 0 (by omega), h 1 (by omega), h 2 (by omega), h 3 (by omega), h 4 (by omega)⟩
attribute [local irreducible] World.cell?
theorem getD_snoc (f : Nat → Int) (j k : Nat) (h : k < j) : ((List.range j).map f).getD k 0 = f k := by
  rw [List.getD_eq_getElem?_getD, List.getElem?_map, List.getElem?_range h]
  rfl
set_option maxRecDepth 100000 in
set_option maxHeartbeats 3200000 in
theorem iparse_any (s : ByteArray) (w : World) (hs : s.size ≤ 1048576) (hp : HasPow w) (he : HasErrs w) :
    Calls Tryd.prog 9 #[.string s] w fun e w' => e = .returned (.tuple #[(.agg #[.int .i64 (parseV s).n.a, .int .i64 (parseV s).n.b, .int .i64 (parseV s).n.c, .int .i64 (parseV s).n.d, .int .i64 (parseV s).e]), .bool (parseB s)]) ∧ Below w.heap.size w w' := by
  have Hp := Lib.hid hp
  have He := Lib.hid he
  have Hr0 := Lib.hid (heap_alloc_new w (.cells #[.int .i64 0, .int .i64 0, .int .i64 0, .int .i64 0, .int .i64 0] 27))
  have Hy := Lib.hid (fun (x : Dw) (h : Reads s x) => parse_yes h)
  have Hn := Lib.hid (fun (h : ∀ x, ¬ Reads s x) => parse_no h)
  clear hp he
  generalize parseV s = R at *
  generalize parseB s = PB at *
  go_enter Tryd.func9, Tryd.ntmps9
  go_wp2_with fail
  refine (isplit s _ hs).mono ?_
  rintro e w1 ⟨⟨q0, q1, q2, q3, q4, b, rfl, hsc⟩, hb1⟩
  have Hr1 := Lib.hid (below_blk hb1 (lt_of_block Hr0.out) Hr0.out)
  have Hb1 := Lib.hid (below_up (B := w.heap.size) (w := w) (by go_grown) hb1 (by simp))
  have hz1 := lt_of_block Hr1.out
  clear hb1
  cases b with
  | false =>
    obtain ⟨rfl, rfl⟩ := Hn.out (scan_none (by simpa using hsc))
    clear hsc Hn Hy
    obtain ⟨e0, e1, e2, e3, e4⟩ := blk_cells5 Hr1.out
    have f1 := fun o => free_at Hr1.out o
    go_wp2_with fail
    obtain ⟨k0, k1, k2, k3, k4⟩ := blk_cells5 (alloc_blk (.cells #[.string (toB q0), .string (toB q1), .string (toB q2), .string (toB q3), .string (toB q4)] 51) (set5_at (u0 := .int .i64 0) (u1 := .int .i64 0) (u2 := .int .i64 0) (u3 := .int .i64 0) (u4 := .int .i64 0) Hr1.out))
    refine bodyPost_ret (v := .tuple #[(.agg #[.int .i64 Dw.zero.n.a, .int .i64 Dw.zero.n.b, .int .i64 Dw.zero.n.c, .int .i64 Dw.zero.n.d, .int .i64 Dw.zero.e]), .bool false]) (by simp only [results, Tryd.results9]; simp [go_sem, k0, k1, k2, k3, k4, Dw.zero, Zw.zero]) rfl ⟨rfl, ?_⟩
    have := Hb1.out
    go_grown
  | true =>
    have hsc2 : scan s.data.toList [] [] = some [q0, q1, q2, q3, q4] := by simpa using hsc
    have hlen : ∀ k, k < 5 → (toB (at5 q0 q1 q2 q3 q4 k)).size ≤ 1048576 := by
      have ⟨_, h⟩ := scan_cat _ _ _ _ hsc2
      have h2 := congrArg List.length h
      simp [cat] at h2
      intro k hk
      rw [toB_size]
      rcases (show k = 0 ∨ k = 1 ∨ k = 2 ∨ k = 3 ∨ k = 4 by omega) with rfl | rfl | rfl | rfl | rfl <;> (simp only [at5]; simp; omega)
    have Hlen := Lib.hid hlen
    have Hsc := Lib.hid hsc2
    clear hsc hsc2 hlen
    go_upto_region 6 with fail
    have hidx := idx5 q0 q1 q2 q3 q4
    go_loopw [5, 20] (fun ok i wr => ∃ (j : Nat), ok = .bool true ∧ i = .int .i64 j ∧ j ≤ 5 ∧ Hid (∀ k, k < j → fldB (toB (at5 q0 q1 q2 q3 q4 k)) = true) ∧
        Hid (NBox wr (w1.heap.size + 1) ((List.range j).map fun k => fldV (toB (at5 q0 q1 q2 q3 q4 k)))) ∧ Hid (wr.heap[w.heap.size]? = some (.cells #[.int .i64 0, .int .i64 0, .int .i64 0, .int .i64 0, .int .i64 0] 27)) ∧ Hid (Below w.heap.size w wr)) (fun _ i _ => 5 - (Go.RowKit.intOf i).toNat)
    case atStart =>
      refine ⟨0, rfl, rfl, by omega, fun k hk => absurd hk (by omega), ?_, ?_, ?_⟩
      · exact alloc_new (by simp) _
      · exact alloc_blk _ (alloc_blk _ Hr1.out)
      · have := Hb1.out
        exact (this.alloc (by omega) _).alloc (by simp; omega) _
    case round =>
      obtain ⟨j, rfl, rfl, hj5, Hall, HN, HR, HB⟩ := hrel
      have hzb := HB.out.size
      by_cases hj : j < 5
      · have hi := hidx j hj
        have hjl : ((j : Int) < 5) := by omega
        have hnb := lt_of_block HN.out
        have Hc := Lib.hid (ipint (toB (at5 q0 q1 q2 q3 q4 j)) wr (Hlen.out j hj) (Hp.out.below HB.out) (He.out.below HB.out))
        go_wp2_with fail
        refine Hc.out.mono ?_
        rintro e w2 ⟨rfl, hb2⟩
        have HN2 : Hid (NBox w2 (w1.heap.size + 1) ((List.range j).map fun k => fldV (toB (at5 q0 q1 q2 q3 q4 k)))) := below_blk hb2 hnb HN.out
        have HR2 := Lib.hid (below_blk hb2 (by omega) HR.out)
        have HB2 := Lib.hid (below_nx HB.out hb2)
        have hcc := cell_at HN2.out j _ (ncells_get _ hj)
        have hzz := free_at HN2.out j
        clear hb2 Hc HN HR HB hnb
        have Hset := Lib.hid (HN2.out.set (j := j) (by simp) (fldV (toB (at5 q0 q1 q2 q3 q4 j))) hj)
        have HR3 := Lib.hid (show (w2.setCell ⟨w1.heap.size + 1, j, none⟩ (.int .i64 (fldV (toB (at5 q0 q1 q2 q3 q4 j))))).heap[w.heap.size]? = some (.cells #[.int .i64 0, .int .i64 0, .int .i64 0, .int .i64 0, .int .i64 0] 27) by
          rw [Below.heap_setCell _ _ _ _ (by show w.heap.size ≠ w1.heap.size + 1; omega)]; exact HR2.out)
        have HB3 := Lib.hid (HB2.out.setCell (p := ⟨w1.heap.size + 1, j, none⟩) (by show w.heap.size ≤ w1.heap.size + 1; omega) (.int .i64 (fldV (toB (at5 q0 q1 q2 q3 q4 j)))))
        cases hf : fldB (toB (at5 q0 q1 q2 q3 q4 j)) with
        | false =>
          have hno : ∀ x, ¬ Reads s x := by
            intro x hx
            have ⟨⟨h0, h1, h2, h3, h4⟩, _⟩ := fields_of Hsc.out hx
            rcases (show j = 0 ∨ j = 1 ∨ j = 2 ∨ j = 3 ∨ j = 4 by omega) with rfl | rfl | rfl | rfl | rfl
            · rw [show at5 q0 q1 q2 q3 q4 0 = q0 from rfl, h0] at hf; cases hf
            · rw [show at5 q0 q1 q2 q3 q4 1 = q1 from rfl, h1] at hf; cases hf
            · rw [show at5 q0 q1 q2 q3 q4 2 = q2 from rfl, h2] at hf; cases hf
            · rw [show at5 q0 q1 q2 q3 q4 3 = q3 from rfl, h3] at hf; cases hf
            · rw [show at5 q0 q1 q2 q3 q4 4 = q4 from rfl, h4] at hf; cases hf
          obtain ⟨rfl, rfl⟩ := Hn.out hno
          clear hno hf Hn Hy
          go_upto_region 10 with fail
          generalize w2.setCell ⟨w1.heap.size + 1, j, none⟩ (.int .i64 (fldV (toB (at5 q0 q1 q2 q3 q4 j)))) = W3 at *
          obtain ⟨e0, e1, e2, e3, e4⟩ := blk_cells5 HR3.out
          have f1 := fun o => free_at HR3.out o
          obtain ⟨k0, k1, k2, k3, k4⟩ := blk_cells5 (set5_at (u0 := .int .i64 0) (u1 := .int .i64 0) (u2 := .int .i64 0) (u3 := .int .i64 0) (u4 := .int .i64 0) HR3.out)
          go_wp2_with fail
          refine bodyPost_ret (v := .tuple #[(.agg #[.int .i64 Dw.zero.n.a, .int .i64 Dw.zero.n.b, .int .i64 Dw.zero.n.c, .int .i64 Dw.zero.n.d, .int .i64 Dw.zero.e]), .bool false]) (by simp only [results, Tryd.results9]; simp [go_sem, k0, k1, k2, k3, k4, Dw.zero, Zw.zero]) rfl ⟨rfl, ?_⟩
          have := HB3.out
          go_grown
        | true =>
          go_wp2_with fail
          go_roundw
          case rel =>
            refine ⟨j + 1, rfl, by simp, by omega, fun k hk => ?_, ?_, HR3, HB3⟩
            · by_cases hkj : k < j
              · exact Hall.out k hkj
              · obtain rfl : k = j := by omega
                exact hf
            · rw [List.range_succ, List.map_append]
              exact Hset
          case measure => first | (simp [Go.RowKit.intOf]; done) | (simp [Go.RowKit.intOf]; omega)
      · obtain rfl : j = 5 := by omega
        obtain ⟨g0, g1, g2, g3, g4⟩ := five_all Hall.out
        have gb0 := num_bounds (toB (at5 q0 q1 q2 q3 q4 4))
        have hyes := fun hx => Hy.out _ (fields_yes Hsc.out g0 g1 g2 g3 g4 hx)
        have hno := fun (hx : ¬ (rd q0 q1 q2 q3 q4).ok) => Hn.out (fun x h => by rw [(fields_of Hsc.out h).2] at hx; exact hx h.1)
        have hx : rd q0 q1 q2 q3 q4 = ⟨⟨fldV (toB (at5 q0 q1 q2 q3 q4 0)), fldV (toB (at5 q0 q1 q2 q3 q4 1)), fldV (toB (at5 q0 q1 q2 q3 q4 2)), fldV (toB (at5 q0 q1 q2 q3 q4 3))⟩, fldV (toB (at5 q0 q1 q2 q3 q4 4))⟩ := rfl
        rw [hx] at hyes hno
        have HN5 : Hid (wr.heap[w1.heap.size + 1]? = some (.cells #[.int .i64 (fldV (toB (at5 q0 q1 q2 q3 q4 0))), .int .i64 (fldV (toB (at5 q0 q1 q2 q3 q4 1))), .int .i64 (fldV (toB (at5 q0 q1 q2 q3 q4 2))), .int .i64 (fldV (toB (at5 q0 q1 q2 q3 q4 3))), .int .i64 (fldV (toB (at5 q0 q1 q2 q3 q4 4)))] 54 (0, 0))) := HN.out
        have Hyes := Lib.hid hyes
        have Hno := Lib.hid hno
        clear hyes hno hx g0 g1 g2 g3 g4 HN Hall hidx Hy Hn Hsc Hlen
        generalize fldV (toB (at5 q0 q1 q2 q3 q4 0)) = a at *
        generalize fldV (toB (at5 q0 q1 q2 q3 q4 1)) = b at *
        generalize fldV (toB (at5 q0 q1 q2 q3 q4 2)) = c at *
        generalize fldV (toB (at5 q0 q1 q2 q3 q4 3)) = d at *
        generalize fldV (toB (at5 q0 q1 q2 q3 q4 4)) = e at *
        have Hv := Lib.hid (fun w => ivalidD ⟨⟨a, b, c, d⟩, e⟩ w (by show _ ≤ e; omega) (by show e ≤ _; omega))
        obtain ⟨n0, n1, n2, n3, n4⟩ := blk_cells5 HN5.out
        have hnl := lt_of_block HN5.out
        have Hok := Lib.hid (okD_true (x := ⟨⟨a, b, c, d⟩, e⟩))
        have Hokf := Lib.hid (okD_false (x := ⟨⟨a, b, c, d⟩, e⟩))
        generalize okD ⟨⟨a, b, c, d⟩, e⟩ = ok at *
        go_wp2_with fail
        refine (Hv.out _).mono ?_
        rintro e w3 ⟨rfl, hb3⟩
        have r0 := below_blk hb3 (by have := lt_of_block HR.out; simp; omega) (alloc_blk _ (alloc_blk _ HR.out))
        have r1 := below_blk hb3 (by simp) (alloc_new (n := wr.heap.size + 1) (by simp) (.cells #[.int .i64 ((Dw.mk ⟨a, b, c, d⟩ e)).n.a, .int .i64 ((Dw.mk ⟨a, b, c, d⟩ e)).n.b, .int .i64 ((Dw.mk ⟨a, b, c, d⟩ e)).n.c, .int .i64 ((Dw.mk ⟨a, b, c, d⟩ e)).n.d, .int .i64 ((Dw.mk ⟨a, b, c, d⟩ e)).e] 27))
        have HB4 := Lib.hid (below_up (B := w.heap.size) (w := w) (by have := HB.out; go_grown) hb3 (by simp; omega))
        have Hr0' := Lib.hid r0
        obtain ⟨e0, e1, e2, e3, e4⟩ := blk_cells5 r0
        have f1 := fun o => free_at r0 o
        obtain ⟨p0, p1, p2, p3, p4⟩ := blk_cells5 r1
        clear hb3 r0 r1 n0 n1 n2 n3 n4 HN5 HR HB Hv gb0
        cases ok with
        | false =>
          obtain ⟨rfl, rfl⟩ := Hno.out (Hokf.out.1 rfl)
          clear Hyes Hno Hok Hokf p0 p1 p2 p3 p4
          go_wp2_with fail
          obtain ⟨k0, k1, k2, k3, k4⟩ := blk_cells5 (set5_at (u0 := .int .i64 0) (u1 := .int .i64 0) (u2 := .int .i64 0) (u3 := .int .i64 0) (u4 := .int .i64 0) Hr0'.out)
          refine bodyPost_ret (v := .tuple #[(.agg #[.int .i64 Dw.zero.n.a, .int .i64 Dw.zero.n.b, .int .i64 Dw.zero.n.c, .int .i64 Dw.zero.n.d, .int .i64 Dw.zero.e]), .bool false]) (by simp only [results, Tryd.results9]; simp [go_sem, k0, k1, k2, k3, k4, Dw.zero, Zw.zero]) rfl ⟨rfl, ?_⟩
          have := HB4.out
          go_grown
        | true =>
          obtain ⟨rfl, rfl⟩ := Hyes.out (Hok.out.1 rfl)
          clear Hyes Hno Hok Hokf
          go_wp2_with fail
          obtain ⟨k0, k1, k2, k3, k4⟩ := blk_cells5 (set5_at (u0 := .int .i64 a) (u1 := .int .i64 b) (u2 := .int .i64 c) (u3 := .int .i64 d) (u4 := .int .i64 e) Hr0'.out)
          refine bodyPost_ret (v := .tuple #[(.agg #[.int .i64 (Dw.mk ⟨a, b, c, d⟩ e).n.a, .int .i64 (Dw.mk ⟨a, b, c, d⟩ e).n.b, .int .i64 (Dw.mk ⟨a, b, c, d⟩ e).n.c, .int .i64 (Dw.mk ⟨a, b, c, d⟩ e).n.d, .int .i64 (Dw.mk ⟨a, b, c, d⟩ e).e]), .bool true]) (by simp only [results, Tryd.results9]; simp [go_sem, k0, k1, k2, k3, k4]) rfl ⟨rfl, ?_⟩
          have := HB4.out
          go_grown
end Go.Proofs.YtggmcahglcnleaaDoor
