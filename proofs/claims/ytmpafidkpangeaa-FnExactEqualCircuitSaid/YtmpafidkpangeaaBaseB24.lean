/- BaseB24: several of our texts in one: CiKb CiV CpU CpV. -/
import Derived.Test.YtmpafidkpangeaaBaseB08
import Derived.Test.YtmpafidkpangeaaBaseB07
import Derived.Test.YtmpafidkpangeaaBaseB20
import Derived.Laws.AppendOwn
namespace Go.Proofs.Ytmpafidkpangeaa
open Go.RowKit
theorem wpList_append_sl {α : Type} {E : Enc α} {P : Program} {w : World} {ops : Array Oper} {rest : List Oper} {o : Oper} {a : Act} {Q : Exit → Act → World → Prop} (hgd : o.guard = none) (s x : Operand) (t : TypeId)
    (ho : o.op = .call { callee := .builtin .append, args := #[s, x], argTypes := #[t, t] })
    (base : Nat) (i : TypeInfo) (z : Value) (bytes : Nat) (ht : P.underlying t = some (.slice E.ty)) (hi : P.info? E.ty = some i) (hz : i.zero = some z)
    (hsize : i.size = E.n) (hby : i.bytes = bytes) (hzs : z.cells.size = E.n) (hsz : 0 < E.n)
    (v : Value) (n : Nat) (xs : List Value) (hs : a.eval s = v) (hown : w.ownsRow base E.ty E.n v n xs) (B : Nat) (X : Value) (M : List α) (hx : a.eval x = X) (hX : E.Sl w B X M)
    (h63 : n + M.length ≤ maxLen) (hbytes : (n + M.length) * bytes ≤ 140737488355328) (hbase : base ≤ w.heap.size)
    (h : ∀ v' w', w'.ownsRow base E.ty E.n v' (n + M.length) (xs ++ E.flat M) → w.grownBy w' v.ownBlock → (v'.ownBlock = v.ownBlock ∨ v'.ownBlock = some w.heap.size) → wpList P ops Q rest (a.put o.dst v') w') : wpList P ops Q (o :: rest) a w := by
  refine wpList_plain hgd fun _ hK => ?_
  obtain ⟨v', w', hr, h2, h3, h4⟩ := run_append_sl (P := P) w base t o.type i z bytes ht hi hz hsize hby hzs hsz v n xs hown B X M hX h63 hbytes hbase
  unfold Oper.wp execOp
  simp only [ho, resolve, invoke, builtin, Sem.run_bind, Sem.run_pure, Result.andThen_ok, List.map_toArray, List.map_cons, List.map_nil, hs, hx, hr]
  exact hK _ _ (h v' w' h2 h3 h4)
attribute [local irreducible] World.cell?
set_option maxRecDepth 100000 in
set_option maxHeartbeats 3200000 in
theorem iadd (C b : Nat) (n : Int) (v u : Value) (k : Nat) (xs : List Value) (M : List Gt) (w : World) (hb : w.heap[b]? = some (.cells #[.int .i64 n, v] 68 (0, 0))) (hown : w.ownsRow (b + 1) 44 4 v k xs) (hu : gtE.Sl w C u M) (hk : k + M.length ≤ 1048576) :
    Calls Try.prog 45 #[.pointer (some ⟨b, 1, none⟩), u] w fun e w' => e = .returned (.tuple #[]) ∧ (∃ v', w'.heap[b]? = some (.cells #[.int .i64 n, v'] 68 (0, 0)) ∧ w'.ownsRow (b + 1) 44 4 v' (k + M.length) (xs ++ gtE.flat M)) ∧ Below b w w' ∧ w.heap.size ≤ w'.heap.size ∧ (∀ (g : Nat) (o : Obj), w.heap[g]? = some o → g ≠ b → some g ≠ v.ownBlock → w'.heap[g]? = some o) := by
  obtain ⟨i0, hi, hz0, hz1, hz2⟩ := info_parts infoG3
  obtain ⟨c0, c1⟩ := blk_cells2 hb
  have hbl := lt_of_block hb
  have fb := fun o => free_at hb o
  have Hb := Lib.hid hb
  have Hown := Lib.hid hown
  have Hu := Lib.hid hu
  obtain ⟨pa, ca, hpa, -, -⟩ := id hu
  clear hb hown hu
  subst hpa
  go_enter Try.func45, Try.ntmps45
  go_wp2_with (first
    | (at_builtin; refine wpList_append_sl (E := gtE) rfl _ _ 24 rfl (b + 1) i0 (.agg #[.int .i64 0, .int .i64 0, .int .i64 0, .int .i64 0]) 32 Try.underlying24 hi hz0 hz1 hz2 rfl (by decide) v k xs rfl Hown.out C _ M rfl Hu.out ?d3 ?d4 ?d5 ?_))
  case d3 => unfold maxLen; omega
  case d4 => omega
  case d5 => omega
  intro v' w4 hown' hgrow hat
  have hne : some b ≠ v.ownBlock := fun e => by have := (Hown.out.lt b e.symm).1; omega
  have hb4 := grown_blk hgrow Hb.out hne
  have hs4 := hgrow.size
  have hB4 : Below b w w4 := (Below.refl b w).grown hgrow (by omega) (fun q hq => by have := (Hown.out.lt q hq).1; omega)
  have hv' : ∀ k, v'.ownBlock = some k → k ≠ b := fun q hq e => by
    subst e
    rcases hat with h | h
    · exact hne (hq.symm.trans h)
    · have := Option.some.inj (hq.symm.trans h); omega
  have Hkeep := Lib.hid (show ∀ (g : Nat) (o : Obj), w.heap[g]? = some o → some g ≠ v.ownBlock → w4.heap[g]? = some o from fun g o ho hc => (hgrow.block g (lt_of_block ho) hc).trans ho)
  have Hown4 := Lib.hid hown'
  have HB4 := Lib.hid hB4
  have HO5 := Lib.hid (heap_set hb4 1 v')
  obtain ⟨pv, cv, hpv⟩ : ∃ p c, v' = .slice p (k + M.length) c := by
    rcases hown'.2 with ⟨rfl, h⟩ | ⟨g, cap, cur, rfl, _⟩
    · exact ⟨none, 0, by rw [h]⟩
    · exact ⟨_, _, rfl⟩
  clear c0 c1 hown' hat hgrow hB4 hne
  obtain ⟨d0, d1⟩ := blk_cells2 hb4
  have fb4 := fun o => free_at hb4 o
  have hbl4 := lt_of_block hb4
  clear hb4
  subst hpv
  go_wp2_with fail
  first | go_end0 | (refine bodyPost_ret (results_none rfl _ _ _) rfl ?_) | (refine bodyPost_end (results_none rfl _ _ _) rfl ?_)
  refine ⟨rfl, ⟨_, HO5.out, row_set1 Hown4.out hv'⟩, HB4.out.setCell (p := ⟨b, 1, none⟩) (Nat.le_refl _) _, ?_, fun g o ho h1 hc => set1_blk h1 (Hkeep.out g o ho hc)⟩
  simp [World.setCell]
  omega
/-- A block that is no row of gates is not the one that a slice owns. -/
theorem own_other {w : World} {base : Nat} {v : Value} {k g : Nat} {xs : List Value} {o : Obj} (h : w.ownsRow base 44 4 v k xs) (ho : w.heap[g]? = some o) (hc : ∀ cs f, o ≠ Obj.cells cs 44 f) : some g ≠ v.ownBlock := fun e => by
  rcases h.2 with ⟨rfl, _⟩ | ⟨g', cap, cur, rfl, _, hgb, _⟩
  · cases e
  · obtain rfl : g = g' := by simpa [Value.ownBlock] using e
    rw [hgb] at ho; exact hc _ _ (Option.some.inj ho).symm
set_option maxRecDepth 100000 in
set_option maxHeartbeats 1600000 in
theorem ifinished (n : Int) (v : Value) (p : Option Addr) (k c : Nat) (w : World) (hv : v = .slice p k c) : Calls Try.prog 47 #[.agg #[.int .i64 n, v]] w fun e w' => e = .returned (.agg #[.int .i64 n, v]) ∧ Below w.heap.size w w' := by
  subst hv
  have Hb0 := Lib.hid (show Below w.heap.size w ((w.alloc (.cells #[.int .i64 n, .slice p k c] 68)).alloc (.cells #[.int .i64 0, .slice none 0 0] 26)) by go_grown)
  have HX := Lib.hid (alloc_blk (.cells #[.int .i64 0, .slice none 0 0] 26) (heap_alloc_new w (.cells #[.int .i64 n, .slice p k c] 68)))
  have HR := Lib.hid (show ((w.alloc (.cells #[.int .i64 n, .slice p k c] 68)).alloc (.cells #[.int .i64 0, .slice none 0 0] 26)).heap[w.heap.size + 1]? = some (.cells #[.int .i64 0, .slice none 0 0] 26 (0, 0)) by
    simpa using heap_alloc_new (w.alloc (.cells #[.int .i64 n, .slice p k c] 68)) (.cells #[.int .i64 0, .slice none 0 0] 26))
  obtain ⟨c0, c1⟩ := blk_cells2 HX.out
  obtain ⟨r0, r1⟩ := blk_cells2 HR.out
  have fR := fun o => free_at HR.out o
  have hxl := lt_of_block HX.out
  have hrl := lt_of_block HR.out
  go_enter Try.func47, Try.ntmps47
  go_wp2_with fail
  obtain ⟨k0, k1⟩ := blk_cells2 (set2_at (u0 := .int .i64 n) (u1 := .slice p k c) HR.out)
  refine bodyPost_ret (v := .agg #[.int .i64 n, .slice p k c]) (by simp only [results, Try.results47]; simp [go_sem]) rfl ⟨rfl, ?_⟩
  have := Hb0.out
  go_grown
end Go.Proofs.Ytmpafidkpangeaa
namespace Go.Proofs.Ytmpafidkpangeaa
open Go.RowKit
theorem size_alloc1 (w : World) (o : Obj) : (w.alloc o).heap.size = w.heap.size + 1 := by simp
/-- A circuit's box. -/
def CB (w : World) (b : Nat) (n : Int) (v : Value) (w' : World) : Prop := w'.cell? ⟨b, 0, none⟩ = some (.int .i64 n) ∧ w'.cell? ⟨b, 1, none⟩ = some v ∧ b < w'.heap.size ∧ Below w.heap.size w w'
theorem CB.drew {w w1 : World} {b : Nat} {n : Int} {v : Value} (h : CB w b n v w1) : CB w b n v w1.drew := let ⟨a0, a1, z, l⟩ := h; ⟨a0, a1, z, l.drew⟩
theorem CB.below {w w1 w2 : World} {b : Nat} {n : Int} {v : Value} (h : CB w b n v w1) (hb : Below w1.heap.size w1 w2) : CB w b n v w2 :=
  let ⟨a0, a1, z, l⟩ := h
  ⟨cell_below a0 hb z, cell_below a1 hb z, Nat.lt_of_lt_of_le z hb.size, below_up l hb l.size⟩
theorem cell_set {w : World} {b o g p : Nat} {u v : Value} (h : w.cell? ⟨b, o, none⟩ = some v) (hn : b ≠ g) : (w.setCell ⟨g, p, none⟩ u).cell? ⟨b, o, none⟩ = some v :=
  (World.cell?_of_block (w := w) (a := ⟨b, o, none⟩) (Below.heap_setCell w ⟨g, p, none⟩ u b (by show b ≠ g; exact hn))).trans h
theorem CB.set {w w1 : World} {b g p : Nat} {n : Int} {v u : Value} (h : CB w b n v w1) (hn : b ≠ g) (hg : w.heap.size ≤ g) : CB w b n v (w1.setCell ⟨g, p, none⟩ u) :=
  let ⟨a0, a1, z, l⟩ := h
  ⟨cell_set a0 hn, cell_set a1 hn, by simpa [World.setCell] using z, l.setCell (p := ⟨g, p, none⟩) hg u⟩
/-- Two circuits' boxes. -/
def CB2 (w : World) (a b : Nat) (n m : Int) (v u : Value) (w' : World) : Prop := w'.cell? ⟨a, 0, none⟩ = some (.int .i64 n) ∧ w'.cell? ⟨a, 1, none⟩ = some v ∧ w'.cell? ⟨b, 0, none⟩ = some (.int .i64 m) ∧ w'.cell? ⟨b, 1, none⟩ = some u ∧ a < w'.heap.size ∧ b < w'.heap.size ∧ Below w.heap.size w w'
theorem CB2.drew {w w1 : World} {a b : Nat} {n m : Int} {v u : Value} (h : CB2 w a b n m v u w1) : CB2 w a b n m v u w1.drew := let ⟨a0, a1, b0, b1, z, z', l⟩ := h; ⟨a0, a1, b0, b1, z, z', l.drew⟩
theorem CB2.below {w w1 w2 : World} {a b : Nat} {n m : Int} {v u : Value} (h : CB2 w a b n m v u w1) (hb : Below w1.heap.size w1 w2) : CB2 w a b n m v u w2 :=
  let ⟨a0, a1, b0, b1, z, z', l⟩ := h
  ⟨cell_below a0 hb z, cell_below a1 hb z, cell_below b0 hb z', cell_below b1 hb z', Nat.lt_of_lt_of_le z hb.size, Nat.lt_of_lt_of_le z' hb.size, below_up l hb l.size⟩
/-- InverseCircuit: the number of qubits and the gates. -/
def icN (n : Int) (L : List Gt) : Int := if ciB n L then n else 0
def icL (n : Int) (L : List Gt) : List Gt := if ciB n L then invL L else []
theorem icL_len (n : Int) (L : List Gt) : (icL n L).length ≤ L.length := by
  unfold icL
  split
  · rw [invL_len]; exact Nat.le_refl _
  · exact Nat.zero_le _
theorem ccM_amps (n : Int) (L : List Gt) : (ccM n L).length ≤ 1048576 ∧ amps (ccM n L) ≤ 1048576 := by
  unfold ccM
  split
  · rename_i h
    unfold ciB at h
    simp only [Bool.and_eq_true, decide_eq_true_eq] at h
    have h16 : 2 ^ n.toNat ≤ 16 := pow_le16 h.2.1
    unfold cirM
    split
    · have hL := cirC_len L n.toNat
      have hc : (colsM (cirC L n.toNat)).length = 2 ^ n.toNat := by rw [colsM_len, hL]
      have hr := amps_rect (n := 2 ^ n.toNat) (M := colsM (cirC L n.toNat)) fun r hr => by
        obtain ⟨k, -, rfl⟩ := List.mem_map.1 hr
        rw [col_len, hL]
      refine ⟨by omega, ?_⟩
      rw [hr, hc]
      exact Nat.le_trans (Nat.mul_le_mul h16 h16) (by decide)
    · exact ⟨by decide, by decide⟩
  · exact ⟨by decide, by decide⟩
attribute [local irreducible] World.cell?
set_option maxRecDepth 100000 in
set_option maxHeartbeats 3200000 in
theorem sinvC (B : Nat) (n : Int) (v : Value) (L : List Gt) (w : World) (hv : gtE.Sl w B v L) (hm : L.length ≤ 1048576) :
    Calls Try.prog 15 #[.agg #[.int .i64 n, v]] w fun e w' => ∃ r, e = .returned (.agg #[.int .i64 (icN n L), r]) ∧ gtE.Sl w' w.heap.size r (icL n L) ∧ Below w.heap.size w w' := by
  have Hb0 := Lib.hid (show Below w.heap.size w ((w.alloc (.cells #[.int .i64 n, v] 26)).alloc (.cells #[.int .i64 0, .slice none 0 0] 26)) by go_grown)
  have HX := Lib.hid (alloc_blk (.cells #[.int .i64 0, .slice none 0 0] 26) (heap_alloc_new w (.cells #[.int .i64 n, v] 26)))
  have HR := Lib.hid (show ((w.alloc (.cells #[.int .i64 n, v] 26)).alloc (.cells #[.int .i64 0, .slice none 0 0] 26)).heap[w.heap.size + 1]? = some (.cells #[.int .i64 0, .slice none 0 0] 26 (0, 0)) by
    simpa using heap_alloc_new (w.alloc (.cells #[.int .i64 n, v] 26)) (.cells #[.int .i64 0, .slice none 0 0] 26))
  have Hv := Lib.hid (hv.below Hb0.out)
  have H1 := Lib.hid (fun W (h : gtE.Sl W B v L) => svalidC B n v L W h hm)
  have H2 := Lib.hid (fun W (h : gtE.Sl W B v L) => sinvL B v L W h hm)
  obtain ⟨c0, c1⟩ := blk_cells2 HX.out
  have hxl := lt_of_block HX.out
  obtain ⟨pa, ca, rfl, -, -⟩ := hv
  unfold icN icL
  cases hok : ciB n L with
  | false =>
    rw [hok] at H1
    clear hok
    go_enter Try.func15, Try.ntmps15
    go_wp2_with fail
    refine (H1.out _ Hv.out).mono ?_
    rintro e w1 ⟨rfl, hb1⟩
    have HR1 := Lib.hid (below_blk hb1 (lt_of_block HR.out) HR.out)
    have Hb1 := Lib.hid (below_nx Hb0.out hb1)
    obtain ⟨r0, r1⟩ := blk_cells2 HR1.out
    have fR := fun o => free_at HR1.out o
    have hrl := lt_of_block HR1.out
    have hs1 := Hb1.out.size
    clear hb1 c0 c1 hxl
    go_wp2_with fail
    obtain ⟨k0, k1⟩ := blk_cells2 (set2_at (u0 := .int .i64 0) (u1 := .slice none 0 0) HR1.out)
    refine bodyPost_ret (v := .agg #[.int .i64 0, .slice none 0 0]) (by simp only [results, Try.results15]; simp [go_sem, k0, k1]) rfl ⟨_, rfl, Enc.Sl.nil, ?_⟩
    have := Hb1.out
    go_grown
  | true =>
    rw [hok] at H1
    clear hok
    go_enter Try.func15, Try.ntmps15
    go_wp2_with fail
    refine (H1.out _ Hv.out).mono ?_
    rintro e w1 ⟨rfl, hb1⟩
    have HX1 := Lib.hid (below_blk hb1 (lt_of_block HX.out) HX.out)
    have HR1 := Lib.hid (below_blk hb1 (lt_of_block HR.out) HR.out)
    have Hv1 := Lib.hid (Hv.out.below hb1)
    have Hb1 := Lib.hid (below_nx Hb0.out hb1)
    obtain ⟨x0, x1⟩ := blk_cells2 HX1.out
    have hxl1 := lt_of_block HX1.out
    have hrl1 := lt_of_block HR1.out
    have hs1 := Hb1.out.size
    have hS : CB w w.heap.size n (.slice pa L.length ca) w1 := ⟨x0, x1, hxl1, Hb1.out⟩
    have Hc := Lib.hid (H2.out w1.drew (show gtE.Sl w1.drew B _ L from Hv1.out))
    clear hb1 c0 c1 hxl x0 x1
    go_upto_region 3 with fail
    go_region_held3 (fun w' => w'.cell? ⟨w.heap.size, 0, none⟩ = some (.int .i64 n) ∧ w'.cell? ⟨w.heap.size, 1, none⟩ = some (.slice pa L.length ca) ∧ w.heap.size < w'.heap.size ∧ Below w.heap.size w w') (first | (show CB _ _ _ _ _; (with_reducible exact hS.drew)) | (show CB _ _ _ _ _; (with_reducible refine CB.below ?_ hbR); first | assumption | exact ⟨by assumption, by assumption, by assumption, by assumption⟩) | (show CB _ _ _ _ _; (with_reducible refine CB.set (CB.set ?_ (by omega) (by omega)) (by omega) (by omega)); first | assumption | exact ⟨by assumption, by assumption, by assumption, by assumption⟩))
      (first
        | (go_at_call 49; refine (Hc.out).mono ?_; rintro e wR ⟨rv, rfl, hd, hbR⟩; have HbR := Lib.hid hbR; have Hd := Lib.hid hd; obtain ⟨rp, rc, rfl, -, -⟩ := hd; have HR2 := Lib.hid (below_blk hbR (show w.heap.size + 1 < w1.drew.heap.size from hrl1) (show w1.drew.heap[w.heap.size + 1]? = _ from HR1.out)); obtain ⟨r0, r1⟩ := blk_cells2 HR2.out; have fR := fun o => free_at HR2.out o; have hrl := lt_of_block HR2.out))
    all_goals
      have HbE := Lib.hid (show Below w.heap.size w wR from below_up Hb1.out.drew HbR.out Hb1.out.size)
      have hsR := HbR.out.size
      have hsd : w1.drew.heap.size = w1.heap.size := rfl
      go_wp2_with fail
      obtain ⟨k0, k1⟩ := blk_cells2 (set2_at (u0 := .int .i64 n) (u1 := .slice rp (invL L).length rc) HR2.out)
      refine bodyPost_ret (v := .agg #[.int .i64 n, .slice rp (invL L).length rc]) (by simp only [results, Try.results15]; simp [go_sem, k0, k1]) rfl ⟨_, rfl, ?_, ?_⟩
      · exact (sl_set1 (sl_set1 Hd.out (by omega)) (by omega)).mono (by omega)
      · have := HbE.out
        go_grown
end Go.Proofs.Ytmpafidkpangeaa
namespace Go.Proofs.Ytmpafidkpangeaa
/-- Every coefficient lies within K. -/
def Mx (K : Int) (z : Zw) : Prop := (-K ≤ z.a ∧ z.a ≤ K) ∧ (-K ≤ z.b ∧ z.b ≤ K) ∧ (-K ≤ z.c ∧ z.c ≤ K) ∧ (-K ≤ z.d ∧ z.d ≤ K)
theorem Mx.root_back {K : Int} {z : Zw} (h : Mx K z.root) : Mx K z := by
  unfold Mx Zw.root at h
  simp only at h
  unfold Mx
  omega
theorem Mx.rootN_back {K : Int} : ∀ (k : Nat) {z : Zw}, Mx K (rootN k z) → Mx K z
  | 0, _, h => h
  | k + 1, z, h => Mx.rootN_back k (Mx.root_back (by rwa [← rootN_succ]))
theorem Mx.add {K J : Int} {x y : Zw} (h : Mx K x) (k : Mx J y) : Mx (K + J) (x.add y) := by
  unfold Mx at *
  unfold Zw.add
  simp only
  omega
theorem prod_in {K u v : Int} (h0 : -K ≤ u) (h1 : u ≤ K) (k0 : -K ≤ v) (k1 : v ≤ K) : -(K * K) ≤ u * v ∧ u * v ≤ K * K := by
  have a1 := Int.mul_nonneg (show 0 ≤ K - u by omega) (show 0 ≤ K + v by omega)
  have a2 := Int.mul_nonneg (show 0 ≤ K + u by omega) (show 0 ≤ K - v by omega)
  have a3 := Int.mul_nonneg (show 0 ≤ K - u by omega) (show 0 ≤ K - v by omega)
  have a4 := Int.mul_nonneg (show 0 ≤ K + u by omega) (show 0 ≤ K + v by omega)
  rw [Int.sub_mul, Int.mul_add, Int.mul_add] at a1
  rw [Int.add_mul, Int.mul_sub, Int.mul_sub] at a2
  rw [Int.sub_mul, Int.mul_sub, Int.mul_sub] at a3
  rw [Int.add_mul, Int.mul_add, Int.mul_add] at a4
  constructor <;> omega
theorem Mx.mul {K : Int} {x y : Zw} (h : Mx K x) (k : Mx K y) : Mx (4 * (K * K)) (x.mul y) := by
  obtain ⟨⟨a0, a1⟩, ⟨b0, b1⟩, ⟨c0, c1⟩, d0, d1⟩ := h
  obtain ⟨⟨e0, e1⟩, ⟨f0, f1⟩, ⟨g0, g1⟩, i0, i1⟩ := k
  have p1 := prod_in a0 a1 e0 e1
  have p2 := prod_in a0 a1 f0 f1
  have p3 := prod_in a0 a1 g0 g1
  have p4 := prod_in a0 a1 i0 i1
  have q1 := prod_in b0 b1 e0 e1
  have q2 := prod_in b0 b1 f0 f1
  have q3 := prod_in b0 b1 g0 g1
  have q4 := prod_in b0 b1 i0 i1
  have r1 := prod_in c0 c1 e0 e1
  have r2 := prod_in c0 c1 f0 f1
  have r3 := prod_in c0 c1 g0 g1
  have r4 := prod_in c0 c1 i0 i1
  have s1 := prod_in d0 d1 e0 e1
  have s2 := prod_in d0 d1 f0 f1
  have s3 := prod_in d0 d1 g0 g1
  have s4 := prod_in d0 d1 i0 i1
  unfold Mx Zw.mul
  simp only
  omega
theorem Mx.ok {K : Int} {x : Zw} (h : Mx K x) (hK : K ≤ 1073741824) : x.ok := by
  unfold Mx at h
  unfold Zw.ok Near
  omega
theorem upB_of : ∀ (k : Nat) {n : Zw}, (∀ i, i ≤ k → (rootN i n).ok) → upB k n = true
  | 0, _, _ => rfl
  | k + 1, n, h => by
    have h0 := h 0 (by omega)
    have h1 := h 1 (by omega)
    rw [upB, Bool.and_eq_true]
    refine ⟨?_, upB_of k fun i hi => ?_⟩
    · unfold mulB
      rw [decide_eq_true_eq]
      exact ⟨h0, by decide, by rw [mul_rootE]; exact h1⟩
    · have := h (i + 1) (by omega)
      rwa [Nat.add_comm, rootN_add] at this
/-- x is, over the root's power t, a number with small coefficients. -/
def Ov (t : Nat) (K : Int) (x : Dw) : Prop := x.ok ∧ ∃ P, rootN t (vl x) = rootN 60 P ∧ Mx K P
theorem Ov.exp {t : Nat} {K : Int} {x : Dw} (h : Ov t K x) : x.e ≤ t ∧ ∀ i, i ≤ t - x.e.toNat → Mx K (rootN i x.n) := by
  obtain ⟨hx, P, hP, hK⟩ := h
  obtain ⟨x1, x2, x3, x4⟩ := hx
  unfold vl at hP
  rw [← rootN_add] at hP
  have hle : x.e ≤ t := by
    rcases Int.lt_or_le (t : Int) x.e with hl | hl
    · exfalso
      have h1 : x.n = rootN (x.e.toNat - t) P := by
        apply rootN_inj (k := 60 - x.e.toNat + t)
        rw [hP, ← rootN_add]
        congr 1; omega
      rcases x4 with x4 | x4
      · omega
      · have hm : x.n = (rootN (x.e.toNat - t - 1) P).root := by
          rw [h1, show x.e.toNat - t = (x.e.toNat - t - 1) + 1 by omega, rootN_succ]
          congr 2
        have hd : divB x.n = true := by
          rw [divB_iff]
          refine ⟨x1, ?_⟩
          rw [hm]
          unfold Zw.even Zw.root
          simp only
          omega
        rw [x4] at hd
        cases hd
    · exact hl
  refine ⟨hle, fun i hi => ?_⟩
  have h2 : rootN (t - x.e.toNat) x.n = P := by
    apply rootN_inj (k := 60)
    rw [← hP, ← rootN_add]
    congr 1; omega
  rw [← h2, show t - x.e.toNat = i + (t - x.e.toNat - i) by omega, rootN_add] at hK
  exact hK.rootN_back _
theorem Ov.mul {t : Nat} {K : Int} {x y : Dw} (h : Ov t K x) (k : Ov t K y) (_ : K ≤ 1073741824) (h4 : 4 * (K * K) ≤ 1073741824) (ht : t ≤ 30) : dMulB x y = true ∧ Ov (2 * t) (4 * (K * K)) (dMulV x y) := by
  obtain ⟨hx, P, hP, hPK⟩ := id h
  obtain ⟨hy, Q, hQ, hQK⟩ := id k
  obtain ⟨ex, mx⟩ := h.exp
  obtain ⟨ey, my⟩ := k.exp
  have x0 := hx.2.1
  have y0 := hy.2.1
  have hmul := (mx 0 (by omega)).mul (my 0 (by omega))
  have hok : (x.n.mul y.n).ok := hmul.ok h4
  have hB : dMulB x y = true := by
    rw [dMulB_iff]
    refine ⟨hx, hy, ?_, ?_⟩
    · unfold mulB
      rw [decide_eq_true_eq]
      exact ⟨hx.1, hy.1, hok⟩
    · rw [newB_iff]
      refine ⟨hok, by omega, by omega, ?_⟩
      have := red_le (x.e + y.e).toNat (x.n.mul y.n)
      omega
  refine ⟨hB, dMulV_ok hB, P.mul Q, ?_, hPK.mul hQK⟩
  have hv := vl_mul hB
  apply rootN_inj (k := 60)
  rw [rootN_comm, hv, show 2 * t = t + t by omega, rootN_mul2, hP, hQ, ← rootN_mul2, rootN_add]
theorem Ov.add {t : Nat} {K J : Int} {x y : Dw} (h : Ov t K x) (k : Ov t J y) (hK : 0 ≤ K) (hJ : 0 ≤ J) (hs : K + J ≤ 1073741824) (ht : t ≤ 60) : dAddB x y = true ∧ Ov t (K + J) (dAddV x y) := by
  obtain ⟨hx, P, hP, hPK⟩ := id h
  obtain ⟨hy, Q, hQ, hQK⟩ := id k
  obtain ⟨ex, mx⟩ := h.exp
  obtain ⟨ey, my⟩ := k.exp
  have x0 := hx.2.1
  have y0 := hy.2.1
  obtain ⟨t1, t2, t3⟩ := topE_le x y
  have hA : Mx K (numA x y) := mx _ (by omega)
  have hBy : Mx J (numB x y) := my _ (by omega)
  have hsum := hA.add hBy
  have hok : ((numA x y).add (numB x y)).ok := hsum.ok hs
  have hB : dAddB x y = true := by
    rw [dAddB_iff]
    refine ⟨hx, hy, upB_of _ fun i hi => (mx i (by omega)).ok (by omega), upB_of _ fun i hi => (my i (by omega)).ok (by omega), ?_, ?_⟩
    · unfold addB
      rw [decide_eq_true_eq]
      exact ⟨hA.ok (by omega), hBy.ok (by omega), hok⟩
    · rw [newB_iff]
      refine ⟨hok, by omega, by omega, ?_⟩
      have := red_le (topE x y).toNat ((numA x y).add (numB x y))
      omega
  refine ⟨hB, dAddV_ok hB, P.add Q, ?_, hPK.add hQK⟩
  rw [vl_add hB, rootN_addZ, rootN_addZ, hP, hQ]
/-- The coefficients of gates one behind the other, over the root's power of the number of GateH. -/
def hs (L : List Gt) : Nat := (L.map fun g => scK g.k).sum
theorem scK_le (k : Int) : scK k ≤ 1 := by unfold scK; split <;> omega
theorem hs_le : ∀ L : List Gt, hs L ≤ L.length
  | [] => Nat.le_refl _
  | g :: L => by
    have := hs_le L
    have := scK_le g.k
    rw [show hs (g :: L) = scK g.k + hs L by simp [hs], List.length_cons]
    omega
theorem hs_cons (g : Gt) (L : List Gt) : hs (g :: L) = scK g.k + hs L := by simp [hs]
end Go.Proofs.Ytmpafidkpangeaa
namespace Go.Proofs.Ytmpafidkpangeaa
end Go.Proofs.Ytmpafidkpangeaa
