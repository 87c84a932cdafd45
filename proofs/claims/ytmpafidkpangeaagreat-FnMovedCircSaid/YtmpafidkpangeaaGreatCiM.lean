/- The model's l11Moved, RelabelCircuit. -/
import Derived.Test.YtmpafidkpangeaaGreatBaseB16
import Derived.Test.YtmpafidkpangeaaGreatBaseB17
import Derived.Test.YtmpafidkpangeaaGreatBaseB21
import Derived.Deep.AppendLies
namespace Go.Proofs.YtmpafidkpangeaaGreat
open Go.RowKit
attribute [local irreducible] World.cell?
set_option maxRecDepth 100000 in
set_option maxHeartbeats 3200000 in
theorem smoved (B : Nat) (v : Value) (p : List Int) (k : Int) (a b c : Nat) (w : World) (hv : intE.Sl w B v p) (ha : a < p.length) (hb : b < p.length) (hc : c < p.length) :
    Calls Tryz.prog 76 #[(.agg #[.int .i64 (Gt.mk k a b c).k, .int .i64 (Gt.mk k a b c).a, .int .i64 (Gt.mk k a b c).b, .int .i64 (Gt.mk k a b c).c]), v] w fun e w' => e = .returned (.agg #[.int .i64 (movG p (Gt.mk k a b c)).k, .int .i64 (movG p (Gt.mk k a b c)).a, .int .i64 (movG p (Gt.mk k a b c)).b, .int .i64 (movG p (Gt.mk k a b c)).c]) ∧ Below w.heap.size w w' := by
  obtain ⟨pa, cap, rfl, hcap, hr⟩ := hv
  obtain ⟨g, rfl, -, hrow⟩ := hr (by omega)
  have at_ : ∀ j : Nat, j < p.length → p[j]? = some (atI p (j : Int)) := fun j hj => by
    unfold atI
    rw [Int.toNat_natCast, List.getD_eq_getElem?_getD, List.getElem?_eq_getElem hj]; rfl
  have ca := IRow.cell hrow (at_ a ha)
  have cb := IRow.cell hrow (at_ b hb)
  have cc := IRow.cell hrow (at_ c hc)
  have hgl := hrow.lt
  have Ha := Lib.hid (fun w => sar k w)
  rw [show movG p ⟨k, a, b, c⟩ = ⟨k, atI p a, if 1 < ar k then atI p b else 0, if 2 < ar k then atI p c else 0⟩ from rfl]
  have h3 := ar_le k
  generalize ar k = t at *
  generalize atI p (a : Int) = xa at *
  generalize atI p (b : Int) = xb at *
  generalize atI p (c : Int) = xc at *
  have hb2 : Below w.heap.size w ((w.alloc (.cells #[.int .i64 k, .int .i64 (a : Int), .int .i64 (b : Int), .int .i64 (c : Int)] 35)).alloc (.cells #[.int .i64 0, .int .i64 0, .int .i64 0, .int .i64 0] 35)) := by go_grown
  have hb3 : Below w.heap.size w (((w.alloc (.cells #[.int .i64 k, .int .i64 (a : Int), .int .i64 (b : Int), .int .i64 (c : Int)] 35)).alloc (.cells #[.int .i64 0, .int .i64 0, .int .i64 0, .int .i64 0] 35)).alloc (.cells #[.int .i64 0, .int .i64 0, .int .i64 0, .int .i64 0] 35)) := by go_grown
  have ca2 := (hb2.cell (p := ⟨g, a, none⟩) hgl).trans ca
  have cb2 := (hb2.cell (p := ⟨g, b, none⟩) hgl).trans cb
  have cc2 := (hb2.cell (p := ⟨g, c, none⟩) hgl).trans cc
  have ca3 := (hb3.cell (p := ⟨g, a, none⟩) hgl).trans ca
  have cb3 := (hb3.cell (p := ⟨g, b, none⟩) hgl).trans cb
  have cc3 := (hb3.cell (p := ⟨g, c, none⟩) hgl).trans cc
  clear hrow hr at_ hb2 hb3
  have hx4 : Below w.heap.size w (((w.alloc (.cells #[.int .i64 k, .int .i64 (a : Int), .int .i64 (b : Int), .int .i64 (c : Int)] 35)).alloc (.cells #[.int .i64 0, .int .i64 0, .int .i64 0, .int .i64 0] 35)).alloc (.cells #[.int .i64 k, .int .i64 xa, .int .i64 0, .int .i64 0] 35)) := by go_grown
  have hx5 : Below w.heap.size w (((w.alloc (.cells #[.int .i64 k, .int .i64 (a : Int), .int .i64 (b : Int), .int .i64 (c : Int)] 35)).alloc (.cells #[.int .i64 0, .int .i64 0, .int .i64 0, .int .i64 0] 35)).alloc (.cells #[.int .i64 k, .int .i64 xa, .int .i64 xb, .int .i64 0] 35)) := by go_grown
  have cb4 := (hx4.cell (p := ⟨g, b, none⟩) hgl).trans cb
  have cc5 := (hx5.cell (p := ⟨g, c, none⟩) hgl).trans cc
  clear hx4 hx5
  rcases (show t ≤ 1 ∨ t = 2 ∨ t = 3 by omega) with h | rfl | rfl
  · rw [if_neg (by omega), if_neg (by omega)]
    have d1 : decide ((1 : Int) < (t : Int)) = false := decide_eq_false (by omega)
    have e1 : ¬ (1 : Int) < (t : Int) := by omega
    have d2 : decide ((2 : Int) < (t : Int)) = false := decide_eq_false (by omega)
    have e2 : ¬ (2 : Int) < (t : Int) := by omega
    go_enter Tryz.func76, Tryz.ntmps76
    go_wp2_with fail
    refine (Ha.out _).mono ?_
    rintro e w1 ⟨rfl, rfl⟩
    go_upto_region 2 with fail
    go_region
    go_wp2_with fail
    refine bodyPost_ret (v := (.agg #[.int .i64 k, .int .i64 xa, .int .i64 0, .int .i64 0])) (by simp [results, Tryz.results76, go_sem]) rfl ⟨rfl, ?_⟩
    go_grown
  · rw [if_pos (by decide), if_neg (by decide)]
    clear h3
    have d1 : decide ((1 : Int) < ((2 : Nat) : Int)) = true := decide_eq_true (by omega)
    have e1 : (1 : Int) < ((2 : Nat) : Int) := by omega
    have d2 : decide ((2 : Int) < ((2 : Nat) : Int)) = false := decide_eq_false (by omega)
    have e2 : ¬ (2 : Int) < ((2 : Nat) : Int) := by omega
    go_enter Tryz.func76, Tryz.ntmps76
    go_wp2_with fail
    refine (Ha.out _).mono ?_
    rintro e w1 ⟨rfl, rfl⟩
    go_upto_region 2 with fail
    go_region
    go_wp2_with fail
    refine bodyPost_ret (v := (.agg #[.int .i64 k, .int .i64 xa, .int .i64 xb, .int .i64 0])) (by simp [results, Tryz.results76, go_sem]) rfl ⟨rfl, ?_⟩
    go_grown
  · rw [if_pos (by decide), if_pos (by decide)]
    clear h3
    have d1 : decide ((1 : Int) < ((3 : Nat) : Int)) = true := decide_eq_true (by omega)
    have e1 : (1 : Int) < ((3 : Nat) : Int) := by omega
    have d2 : decide ((2 : Int) < ((3 : Nat) : Int)) = true := decide_eq_true (by omega)
    have e2 : (2 : Int) < ((3 : Nat) : Int) := by omega
    go_enter Tryz.func76, Tryz.ntmps76
    go_wp2_with fail
    refine (Ha.out _).mono ?_
    rintro e w1 ⟨rfl, rfl⟩
    go_upto_region 2 with fail
    go_region
    go_wp2_with fail
    refine bodyPost_ret (v := (.agg #[.int .i64 k, .int .i64 xa, .int .i64 xb, .int .i64 xc])) (by simp [results, Tryz.results76, go_sem]) rfl ⟨rfl, ?_⟩
    go_grown
/-- RelabelCircuit. -/
def rlB (n : Int) (L : List Gt) (p : List Int) : Bool := ciB n L && (permB p && decide ((p.length : Int) = n))
def rlN (n : Int) (L : List Gt) (p : List Int) : Int := if rlB n L p then n else 0
def rlL (n : Int) (L : List Gt) (p : List Int) : List Gt := if rlB n L p then L.map (movG p) else []
theorem movL_at {L : List Gt} {p : List Int} {j : Nat} {x : Gt} (hx : L[j]? = some x) : gtE.flat ((L.map (movG p)).take j) ++ gtE.fl (movG p x) = gtE.flat ((L.map (movG p)).take (j + 1)) := by
  rw [gtE.flat_snoc, List.take_add_one, List.getElem?_map, hx]; rfl
set_option maxRecDepth 100000 in
set_option maxHeartbeats 6400000 in
theorem srelab_no (B C : Nat) (n : Int) (v u : Value) (L : List Gt) (p : List Int) (w : World) (hv : gtE.Sl w B v L) (hu : intE.Sl w C u p) (he : Ei p) (hm : L.length ≤ 1048576) (hp : p.length ≤ 1048576) (hno : rlB n L p = false) :
    Calls Tryz.prog 25 #[.agg #[.int .i64 n, v], u] w fun e w' => (∃ r, e = .returned (.tuple #[.agg #[.int .i64 0, r], .bool false]) ∧ gtE.Sl w' w.heap.size r []) ∧ Below w.heap.size w w' := by
  have Hb0 := Lib.hid (show Below w.heap.size w ((w.alloc (.cells #[.int .i64 n, v] 26)).alloc (.cells #[.int .i64 0, .slice none 0 0] 26)) by go_grown)
  have HX := Lib.hid (alloc_blk (.cells #[.int .i64 0, .slice none 0 0] 26) (heap_alloc_new w (.cells #[.int .i64 n, v] 26)))
  have HR := Lib.hid (show ((w.alloc (.cells #[.int .i64 n, v] 26)).alloc (.cells #[.int .i64 0, .slice none 0 0] 26)).heap[w.heap.size + 1]? = some (.cells #[.int .i64 0, .slice none 0 0] 26 (0, 0)) by
    simpa using heap_alloc_new (w.alloc (.cells #[.int .i64 n, v] 26)) (.cells #[.int .i64 0, .slice none 0 0] 26))
  have Hv := Lib.hid (hv.below Hb0.out)
  have Hu := Lib.hid (hu.below Hb0.out)
  have H1 := Lib.hid (fun W (h : gtE.Sl W B v L) => svalidC B n v L W h hm)
  have H2 := Lib.hid (fun W (h : intE.Sl W C u p) => sisP C u p W h he hp)
  obtain ⟨c0, c1⟩ := blk_cells2 HX.out
  have hxl := lt_of_block HX.out
  obtain ⟨pa, ca, rfl, -, -⟩ := hv
  obtain ⟨pu, cu, rfl, -, -⟩ := hu
  unfold rlB at hno
  cases h1 : ciB n L with
  | false =>
    rw [h1] at H1
    clear hno h1
    go_enter Tryz.func25, Tryz.ntmps25
    go_wp2_with fail
    refine (H1.out _ Hv.out).mono ?_
    rintro e w1 ⟨rfl, hb1⟩
    have HX := Lib.hid (below_blk hb1 (lt_of_block HX.out) HX.out)
    have HR := Lib.hid (below_blk hb1 (lt_of_block HR.out) HR.out)
    have Hv := Lib.hid (Hv.out.below hb1)
    have Hu := Lib.hid (Hu.out.below hb1)
    have Hb0 := Lib.hid (below_nx Hb0.out hb1)
    clear hb1
    clear c0 c1 hxl
    obtain ⟨c0, c1⟩ := blk_cells2 HX.out
    have hxl := lt_of_block HX.out
    obtain ⟨r0, r1⟩ := blk_cells2 HR.out
    have fR := fun o => free_at HR.out o
    have hrl := lt_of_block HR.out
    have hs1 := Hb0.out.size
    go_wp2_with fail
    obtain ⟨k0, k1⟩ := blk_cells2 (set2_at (u0 := .int .i64 0) (u1 := .slice none 0 0) HR.out)
    refine bodyPost_ret (v := .tuple #[.agg #[.int .i64 0, .slice none 0 0], .bool false]) (by simp only [results, Tryz.results25]; simp [go_sem, k0, k1]) rfl ⟨⟨_, rfl, Enc.Sl.nil⟩, ?_⟩
    have := Hb0.out
    go_grown
  | true =>
    rw [h1, Bool.true_and] at hno
    rw [h1] at H1
    clear h1
    cases h2 : permB p with
    | false =>
      rw [h2] at H2
      clear hno h2
      go_enter Tryz.func25, Tryz.ntmps25
      go_wp2_with fail
      refine (H1.out _ Hv.out).mono ?_
      rintro e w1 ⟨rfl, hb1⟩
      have HX := Lib.hid (below_blk hb1 (lt_of_block HX.out) HX.out)
      have HR := Lib.hid (below_blk hb1 (lt_of_block HR.out) HR.out)
      have Hv := Lib.hid (Hv.out.below hb1)
      have Hu := Lib.hid (Hu.out.below hb1)
      have Hb0 := Lib.hid (below_nx Hb0.out hb1)
      clear hb1
      clear c0 c1 hxl
      obtain ⟨c0, c1⟩ := blk_cells2 HX.out
      have hxl := lt_of_block HX.out
      go_wp2_with fail
      refine (H2.out _ Hu.out).mono ?_
      rintro e w2 ⟨rfl, hb2⟩
      have HX := Lib.hid (below_blk hb2 (lt_of_block HX.out) HX.out)
      have HR := Lib.hid (below_blk hb2 (lt_of_block HR.out) HR.out)
      have Hv := Lib.hid (Hv.out.below hb2)
      have Hu := Lib.hid (Hu.out.below hb2)
      have Hb0 := Lib.hid (below_nx Hb0.out hb2)
      clear hb2
      clear c0 c1 hxl
      obtain ⟨c0, c1⟩ := blk_cells2 HX.out
      have hxl := lt_of_block HX.out
      obtain ⟨r0, r1⟩ := blk_cells2 HR.out
      have fR := fun o => free_at HR.out o
      have hrl := lt_of_block HR.out
      have hs1 := Hb0.out.size
      go_wp2_with fail
      obtain ⟨k0, k1⟩ := blk_cells2 (set2_at (u0 := .int .i64 0) (u1 := .slice none 0 0) HR.out)
      refine bodyPost_ret (v := .tuple #[.agg #[.int .i64 0, .slice none 0 0], .bool false]) (by simp only [results, Tryz.results25]; simp [go_sem, k0, k1]) rfl ⟨⟨_, rfl, Enc.Sl.nil⟩, ?_⟩
      have := Hb0.out
      go_grown
    | true =>
      rw [h2, Bool.true_and, decide_eq_false_iff_not] at hno
      rw [h2] at H2
      have hd : ((p.length : Int) != n) = true := by simpa using hno
      clear hno h2
      go_enter Tryz.func25, Tryz.ntmps25
      go_wp2_with fail
      refine (H1.out _ Hv.out).mono ?_
      rintro e w1 ⟨rfl, hb1⟩
      have HX := Lib.hid (below_blk hb1 (lt_of_block HX.out) HX.out)
      have HR := Lib.hid (below_blk hb1 (lt_of_block HR.out) HR.out)
      have Hv := Lib.hid (Hv.out.below hb1)
      have Hu := Lib.hid (Hu.out.below hb1)
      have Hb0 := Lib.hid (below_nx Hb0.out hb1)
      clear hb1
      clear c0 c1 hxl
      obtain ⟨c0, c1⟩ := blk_cells2 HX.out
      have hxl := lt_of_block HX.out
      go_wp2_with fail
      refine (H2.out _ Hu.out).mono ?_
      rintro e w2 ⟨rfl, hb2⟩
      have HX := Lib.hid (below_blk hb2 (lt_of_block HX.out) HX.out)
      have HR := Lib.hid (below_blk hb2 (lt_of_block HR.out) HR.out)
      have Hv := Lib.hid (Hv.out.below hb2)
      have Hu := Lib.hid (Hu.out.below hb2)
      have Hb0 := Lib.hid (below_nx Hb0.out hb2)
      clear hb2
      clear c0 c1 hxl
      obtain ⟨c0, c1⟩ := blk_cells2 HX.out
      have hxl := lt_of_block HX.out
      obtain ⟨r0, r1⟩ := blk_cells2 HR.out
      have fR := fun o => free_at HR.out o
      have hrl := lt_of_block HR.out
      have hs1 := Hb0.out.size
      go_wp2_with fail
      obtain ⟨k0, k1⟩ := blk_cells2 (set2_at (u0 := .int .i64 0) (u1 := .slice none 0 0) HR.out)
      refine bodyPost_ret (v := .tuple #[.agg #[.int .i64 0, .slice none 0 0], .bool false]) (by simp only [results, Tryz.results25]; simp [go_sem, k0, k1]) rfl ⟨⟨_, rfl, Enc.Sl.nil⟩, ?_⟩
      have := Hb0.out
      go_grown
set_option maxRecDepth 100000 in
set_option maxHeartbeats 6400000 in
theorem srelab_yes (B C : Nat) (n : Int) (v u : Value) (L : List Gt) (p : List Int) (w : World) (hv : gtE.Sl w B v L) (hu : intE.Sl w C u p) (he : Ei p) (hm : L.length ≤ 1048576) (hp : p.length ≤ 1048576) (hyes : rlB n L p = true) :
    Calls Tryz.prog 25 #[.agg #[.int .i64 n, v], u] w fun e w' => (∃ r, e = .returned (.tuple #[.agg #[.int .i64 n, r], .bool true]) ∧ gtE.Sl w' w.heap.size r (L.map (movG p))) ∧ Below w.heap.size w w' := by
  obtain ⟨i0, hi, hz0, hz1, hz2⟩ := info_parts infoG3
  have Hb0 := Lib.hid (show Below w.heap.size w ((w.alloc (.cells #[.int .i64 n, v] 26)).alloc (.cells #[.int .i64 0, .slice none 0 0] 26)) by go_grown)
  have HX := Lib.hid (alloc_blk (.cells #[.int .i64 0, .slice none 0 0] 26) (heap_alloc_new w (.cells #[.int .i64 n, v] 26)))
  have HR := Lib.hid (show ((w.alloc (.cells #[.int .i64 n, v] 26)).alloc (.cells #[.int .i64 0, .slice none 0 0] 26)).heap[w.heap.size + 1]? = some (.cells #[.int .i64 0, .slice none 0 0] 26 (0, 0)) by
    simpa using heap_alloc_new (w.alloc (.cells #[.int .i64 n, v] 26)) (.cells #[.int .i64 0, .slice none 0 0] 26))
  have Hv := Lib.hid (hv.below Hb0.out)
  have Hu := Lib.hid (hu.below Hb0.out)
  have H1 := Lib.hid (fun W (h : gtE.Sl W B v L) => svalidC B n v L W h hm)
  have H2 := Lib.hid (fun W (h : intE.Sl W C u p) => sisP C u p W h he hp)
  obtain ⟨c0, c1⟩ := blk_cells2 HX.out
  have hxl := lt_of_block HX.out
  unfold rlB at hyes
  rw [Bool.and_eq_true, Bool.and_eq_true, decide_eq_true_eq] at hyes
  obtain ⟨h1, h2, hpn⟩ := hyes
  rw [h1] at H1
  rw [h2] at H2
  have hall : ∀ x ∈ L, gtB x n = true := by
    unfold ciB at h1
    rw [Bool.and_eq_true, List.all_eq_true] at h1
    exact h1.1
  have Hall := Lib.hid hall
  have hd : ((p.length : Int) != n) = false := by simpa using hpn
  have Hpn := Lib.hid hpn
  obtain ⟨pa, ca, rfl, hcap, hr⟩ := hv
  have Hrow := Lib.hid hr
  have hu1 := hu
  obtain ⟨pu, cu, rfl, -, -⟩ := hu
  have Hu1 := Lib.hid hu1
  clear hall h1 h2 hpn hr hu1
  go_enter Tryz.func25, Tryz.ntmps25
  go_wp2_with fail
  refine (H1.out _ Hv.out).mono ?_
  rintro e w1 ⟨rfl, hb1⟩
  have HX := Lib.hid (below_blk hb1 (lt_of_block HX.out) HX.out)
  have HR := Lib.hid (below_blk hb1 (lt_of_block HR.out) HR.out)
  have Hv := Lib.hid (Hv.out.below hb1)
  have Hu := Lib.hid (Hu.out.below hb1)
  have Hb0 := Lib.hid (below_nx Hb0.out hb1)
  clear hb1
  clear c0 c1 hxl
  obtain ⟨c0, c1⟩ := blk_cells2 HX.out
  have hxl := lt_of_block HX.out
  go_wp2_with fail
  refine (H2.out _ Hu.out).mono ?_
  rintro e w2 ⟨rfl, hb2⟩
  have HX := Lib.hid (below_blk hb2 (lt_of_block HX.out) HX.out)
  have HR := Lib.hid (below_blk hb2 (lt_of_block HR.out) HR.out)
  have Hv := Lib.hid (Hv.out.below hb2)
  have Hu := Lib.hid (Hu.out.below hb2)
  have Hb0 := Lib.hid (below_nx Hb0.out hb2)
  clear hb2
  clear c0 c1 hxl
  obtain ⟨c0, c1⟩ := blk_cells2 HX.out
  have hxl := lt_of_block HX.out
  have hs2 := Hb0.out.size
  have hrl := lt_of_block HR.out
  have hOx : w2.heap.size ≠ w.heap.size := by omega
  have hOr : w2.heap.size ≠ w.heap.size + 1 := by omega
  have HX := Lib.hid (alloc_blk (.cells #[.int .i64 n, .slice none 0 0] 26) HX.out)
  have HR := Lib.hid (alloc_blk (.cells #[.int .i64 n, .slice none 0 0] 26) HR.out)
  have HO := Lib.hid (heap_alloc_new w2 (.cells #[.int .i64 n, .slice none 0 0] 26))
  have Hb1 := Lib.hid (Hb0.out.alloc hs2 (.cells #[.int .i64 n, .slice none 0 0] 26))
  have hz3 := size_alloc1 w2 (.cells #[.int .i64 n, .slice none 0 0] 26)
  clear Hb0 Hv Hu
  go_wp2_with fail
  go_loopg [7] L.length (fun m i wr => ∃ (j : Nat) (ov : Value), m = L.length - j ∧ j ≤ L.length ∧ i = .int .i64 j ∧ Hid (wr.ownsRow (w2.heap.size + 1) 35 4 ov j (gtE.flat ((L.map (movG p)).take j))) ∧ Hid (wr.heap[w2.heap.size]? = some (.cells #[.int .i64 n, ov] 26 (0, 0))) ∧ Hid (wr.heap[w.heap.size]? = some (.cells #[.int .i64 n, .slice pa L.length ca] 26 (0, 0))) ∧ Hid (wr.heap[w.heap.size + 1]? = some (.cells #[.int .i64 0, .slice none 0 0] 26 (0, 0))) ∧ Hid (Below w.heap.size w wr) ∧ w2.heap.size + 1 ≤ wr.heap.size)
  case atStart => exact ⟨0, .slice none 0 0, rfl, Nat.zero_le _, rfl, Lib.hid (World.ownsRow_nil _ _ _ _), HO, HX, HR, Hb1, by omega⟩
  case round =>
    obtain ⟨j, ov, rfl, hj, rfl, Hown, HOr, HXr, HRr, Hb, hsz⟩ := hrel
    obtain ⟨o0, o1⟩ := blk_cells2 HOr.out
    have fO := fun o => free_at HOr.out o
    have hOl := lt_of_block HOr.out
    obtain ⟨x0, x1⟩ := blk_cells2 HXr.out
    have hXl := lt_of_block HXr.out
    by_cases hlt : j < L.length
    · obtain ⟨x, hx⟩ : ∃ x, L[j]? = some x := ⟨L[j], List.getElem?_eq_getElem hlt⟩
      obtain ⟨g, rfl, -, hrow⟩ := Hrow.out (by omega)
      have r1 := hrow.below Hb.out hrow.lt
      obtain ⟨y0, y1, y2, y3⟩ := GRow.cells r1 hx
      have hgl := r1.lt
      have HrD := Lib.hid (show gtE.Row wr.drew g L from r1)
      have Hstep := Lib.hid (movL_at (p := p) hx)
      have hgt := gtB_parts (Hall.out x (List.mem_of_getElem? hx))
      have hpn := Hpn.out
      obtain ⟨k, a, b, c⟩ := x
      obtain ⟨-, -, ga, gb, gc⟩ := hgt
      simp only at ga gb gc
      obtain ⟨a, rfl⟩ := Int.eq_ofNat_of_zero_le ga.1
      obtain ⟨b, rfl⟩ := Int.eq_ofNat_of_zero_le gb.1
      obtain ⟨c, rfl⟩ := Int.eq_ofNat_of_zero_le gc.1
      have Hc := Lib.hid (smoved C _ p k a b c wr.drew (show intE.Sl wr.drew C _ p from (Hu1.out.below Hb.out.drew)) (by omega) (by omega) (by omega))
      generalize movG p (Gt.mk k a b c) = y at *
      have HOd := Lib.hid (show wr.drew.heap[w2.heap.size]? = some (.cells #[.int .i64 n, ov] 26 (0, 0)) from HOr.out)
      have HXd := Lib.hid (show wr.drew.heap[w.heap.size]? = some (.cells #[.int .i64 n, .slice (some ⟨g, 0, none⟩) L.length ca] 26 (0, 0)) from HXr.out)
      have HRd := Lib.hid (show wr.drew.heap[w.heap.size + 1]? = some (.cells #[.int .i64 0, .slice none 0 0] 26 (0, 0)) from HRr.out)
      have Hod := Lib.hid Hown.out.drew
      have hwd : wr.drew.heap.size = wr.heap.size := rfl
      clear ga gb gc hpn hrow
      go_upto_region 7 with fail
      go_region_law? (first
        | ((go_simp; go_at_call 76; (with_reducible refine (Hc.out).mono ?_); rintro e w4 ⟨rfl, hb4⟩; have hO4 := below_blk hb4 (by omega) HOd.out; obtain ⟨p0, p1⟩ := blk_cells2 hO4; have fO4 := fun o => free_at hO4 o; have hOl4 := lt_of_block hO4; have hX4 := below_blk hb4 (by omega) HXd.out; obtain ⟨z0, z1⟩ := blk_cells2 hX4; have Hown4 := Lib.hid (row_below Hod.out hb4); have hs4 := hb4.size))
        | ((refine step_append_lies _ (by rfl) _ _ _ (by rfl) (w2.heap.size + 1) 35 i0 (.agg #[.int .i64 0, .int .i64 0, .int .i64 0, .int .i64 0]) 4 32 Tryz.underlying24 hi hz0 hz1 hz2 rfl (by decide) ov j (gtE.flat ((L.map (movG p)).take j)) (by go_simp) (Hown4.out.alloc (.cells #[.int .i64 y.k, .int .i64 y.a, .int .i64 y.b, .int .i64 y.c] 35)) ⟨w4.heap.size, 0, none⟩ 1 1 (gtE.fl y) (by go_simp) rfl (Enc.new_row (E := gtE) w4 y _ rfl) (gtE.one y) (by decide) (by unfold maxLen; omega) (by omega) (by simp; omega) (w4.heap.size + 1) (by simp) ?_; intro gg cap w5 hown5 hgrow hat hlt5; have hO5 := grown_blk hgrow (alloc_blk (.cells #[.int .i64 y.k, .int .i64 y.a, .int .i64 y.b, .int .i64 y.c] 35) hO4) (fun e => by have := (Hown4.out.lt _ e.symm).1; omega); obtain ⟨q0, q1⟩ := blk_cells2 hO5; have fO5 := fun o => free_at hO5 o; have hOl5 := lt_of_block hO5)))
      all_goals
        have hX5 := Lib.hid (grown_blk hgrow (alloc_blk (.cells #[.int .i64 y.k, .int .i64 y.a, .int .i64 y.b, .int .i64 y.c] 35) (below_blk hb4 (by omega) HXd.out)) (fun e => by have := (Hown4.out.lt _ e.symm).1; omega))
        have hR5 := Lib.hid (grown_blk hgrow (alloc_blk (.cells #[.int .i64 y.k, .int .i64 y.a, .int .i64 y.b, .int .i64 y.c] 35) (below_blk hb4 (by omega) HRd.out)) (fun e => by have := (Hown4.out.lt _ e.symm).1; omega))
        have hb5 : Below w.heap.size w w5 := ((below_nx Hb.out.drew hb4).alloc (by omega) (.cells #[.int .i64 y.k, .int .i64 y.a, .int .i64 y.b, .int .i64 y.c] 35)).grown hgrow (by simp; omega) (fun q hq => by have := (Hown4.out.lt q hq).1; omega)
        have Hb5 := Lib.hid hb5
        rw [Hstep.out] at hown5
        have Hown5 := Lib.hid hown5
        have HO5 := Lib.hid (heap_set hO5 1 (.slice (some ⟨gg, 0, none⟩) (j + 1) cap))
        clear hb5 hown5
        go_wp2_with fail
        go_roundg (L.length - (j + 1))
        case measure => omega
        case rel =>
          refine ⟨j + 1, _, rfl, by omega, by go_num, ?_, heap_set hO5 1 (.slice (some ⟨gg, 0, none⟩) (j + 1) cap), ?_, ?_, ?_, ?_⟩
          · exact row_set1 Hown5.out fun k hk => by have := (Hown5.out.lt k hk).1; omega
          · exact set1_blk (by omega) hX5.out
          · exact set1_blk (by omega) hR5.out
          · exact Lib.hid (Hb5.out.setCell (p := ⟨w2.heap.size, 1, none⟩) (by show w.heap.size ≤ w2.heap.size; omega) _)
          · have h5 := hgrow.size
            simp [World.setCell]
            simp at h5
            omega
    · obtain rfl : j = L.length := by omega
      have hown := Hown.out
      rw [List.take_of_length_le (by simp)] at hown
      have hsl : gtE.Sl wr (w2.heap.size + 1) ov (L.map (movG p)) := Enc.Sl.of_own (E := gtE) (by rw [List.length_map]; exact hown)
      obtain ⟨op, oc, hov, -, -⟩ := id hsl
      rw [List.length_map] at hov
      subst hov
      have Hsl := Lib.hid hsl
      obtain ⟨r0, r1⟩ := blk_cells2 HRr.out
      have fR := fun o => free_at HRr.out o
      have hRl := lt_of_block HRr.out
      clear hown hsl
      go_wp2_with fail
      obtain ⟨k0, k1⟩ := blk_cells2 (set2_at (u0 := .int .i64 n) (u1 := .slice op L.length oc) HRr.out)
      refine bodyPost_ret (v := .tuple #[.agg #[.int .i64 n, .slice op L.length oc], .bool true]) (by simp only [results, Tryz.results25]; simp [go_sem, k0, k1]) rfl ⟨⟨_, rfl, ?_⟩, ?_⟩
      · exact (sl_set1 (sl_set1 Hsl.out (by omega)) (by omega)).mono (by omega)
      · have := Hb.out
        go_grown
theorem srelab (B C : Nat) (n : Int) (v u : Value) (L : List Gt) (p : List Int) (w : World) (hv : gtE.Sl w B v L) (hu : intE.Sl w C u p) (he : Ei p) (hm : L.length ≤ 1048576) (hp : p.length ≤ 1048576) :
    Calls Tryz.prog 25 #[.agg #[.int .i64 n, v], u] w fun e w' => (∃ r, e = .returned (.tuple #[.agg #[.int .i64 (rlN n L p), r], .bool (rlB n L p)]) ∧ gtE.Sl w' w.heap.size r (rlL n L p)) ∧ Below w.heap.size w w' := by
  unfold rlN rlL
  cases h : rlB n L p with
  | false => exact srelab_no B C n v u L p w hv hu he hm hp h
  | true => exact srelab_yes B C n v u L p w hv hu he hm hp h
end Go.Proofs.YtmpafidkpangeaaGreat
