/- BaseB21: several of our texts in one: CiKb CiV LyC DcL. -/
import Derived.Test.YtadimihfbpkilaaApS
import Derived.Test.YtadimihfbpkilaaBaseB10
import Derived.Test.YtadimihfbpkilaaBaseB20
import Derived.Laws.AppendOwn
import Derived.Test.YtadimihfbpkilaaBaseB09
import Derived.Test.YtadimihfbpkilaaGsL
import Derived.Test.YtadimihfbpkilaaBaseB12
namespace Go.Proofs.Ytadimihfbpkilaa
open Go.RowKit
theorem wpList_append_sl {α : Type} {E : Enc α} {P : Program} {w : World} {ops : Array Oper} {rest : List Oper} {o : Oper} {a : Act} {Q : Exit → Act → World → Prop} (hgd : o.guard = none) (s x : Operand) (t : TypeId)
    (ho : o.op = .call { callee := .builtin .append, args := #[s, x], argTypes := #[t, t] })
    (base : Nat) (i : TypeInfo) (z : Value) (bytes : Nat) (ht : P.underlying t = some (.slice E.ty)) (hi : P.info? E.ty = some i) (hz : i.zero = some z)
    (hsize : i.size = E.n) (hby : i.bytes = bytes) (hzs : z.cells.size = E.n) (hsz : 0 < E.n)
    (v : Value) (n : Nat) (xs : List Value) (hs : a.eval s = v) (hown : w.ownsRow base E.ty E.n v n xs) (B : Nat) (X : Value) (M : List α) (hx : a.eval x = X) (hX : E.Sl w B X M)
    (h63 : n + M.length ≤ maxLen) (hbytes : (n + M.length) * bytes ≤ 140737488355328) (hbase : base ≤ w.heap.size)
    (h : ∀ v' w', w'.ownsRow base E.ty E.n v' (n + M.length) (xs ++ E.flat M) → w.grownBy w' v.ownBlock → (v'.ownBlock = v.ownBlock ∨ v'.ownBlock = some w.heap.size) → wpList P ops Q rest (a.put o.dst v') w') : wpList P ops Q (o :: rest) a w := by
  refine wpList_plain hgd fun _ hK => ?_
  obtain ⟨v', w', hr, h2, h3, h4⟩ := run_append_sl (P := P) w base t o.type i z bytes ht hi hz hsize hby hzs hsz v n xs hown B X M hX h63 hbytes hbase
  unfold Oper.wp execOp
  simp only [ho, resolve, invoke, builtin, Sem.run_bind, Sem.run_pure, Result.andThen_ok, List.map_toArray, List.map_cons, List.map_nil, hs, hx, hr]
  exact hK _ _ (h v' w' h2 h3 h4)
attribute [local irreducible] World.cell?
/-- A block that is no row of gates is not the one that a slice owns. -/
theorem own_other {w : World} {base : Nat} {v : Value} {k g : Nat} {xs : List Value} {o : Obj} (h : w.ownsRow base 30 4 v k xs) (ho : w.heap[g]? = some o) (hc : ∀ cs f, o ≠ Obj.cells cs 30 f) : some g ≠ v.ownBlock := fun e => by
  rcases h.2 with ⟨rfl, _⟩ | ⟨g', cap, cur, rfl, _, hgb, _⟩
  · cases e
  · obtain rfl : g = g' := by simpa [Value.ownBlock] using e
    rw [hgb] at ho; exact hc _ _ (Option.some.inj ho).symm
end Go.Proofs.Ytadimihfbpkilaa
namespace Go.Proofs.Ytadimihfbpkilaa
open Go.RowKit
theorem size_alloc1 (w : World) (o : Obj) : (w.alloc o).heap.size = w.heap.size + 1 := by simp
/-- A circuit's box. -/
def CB (w : World) (b : Nat) (n : Int) (v : Value) (w' : World) : Prop := w'.cell? ⟨b, 0, none⟩ = some (.int .i64 n) ∧ w'.cell? ⟨b, 1, none⟩ = some v ∧ b < w'.heap.size ∧ Below w.heap.size w w'
theorem CB.drew {w w1 : World} {b : Nat} {n : Int} {v : Value} (h : CB w b n v w1) : CB w b n v w1.drew := let ⟨a0, a1, z, l⟩ := h; ⟨a0, a1, z, l.drew⟩
theorem CB.below {w w1 w2 : World} {b : Nat} {n : Int} {v : Value} (h : CB w b n v w1) (hb : Below w1.heap.size w1 w2) : CB w b n v w2 :=
  let ⟨a0, a1, z, l⟩ := h
  ⟨cell_below a0 hb z, cell_below a1 hb z, Nat.lt_of_lt_of_le z hb.size, below_up l hb l.size⟩
theorem cell_set {w : World} {b o g p : Nat} {u v : Value} (h : w.cell? ⟨b, o, none⟩ = some v) (hn : b ≠ g) : (w.setCell ⟨g, p, none⟩ u).cell? ⟨b, o, none⟩ = some v :=
  (World.cell?_of_block (w := w) (a := ⟨b, o, none⟩) (Below.heap_setCell w ⟨g, p, none⟩ u b (by show b ≠ g; exact hn))).trans h
theorem CB.set {w w1 : World} {b g p : Nat} {n : Int} {v u : Value} (h : CB w b n v w1) (hn : b ≠ g) (hg : w.heap.size ≤ g) : CB w b n v (w1.setCell ⟨g, p, none⟩ u) :=
  let ⟨a0, a1, z, l⟩ := h
  ⟨cell_set a0 hn, cell_set a1 hn, by simpa [World.setCell] using z, l.setCell (p := ⟨g, p, none⟩) hg u⟩
/-- Two circuits' boxes. -/
def CB2 (w : World) (a b : Nat) (n m : Int) (v u : Value) (w' : World) : Prop := w'.cell? ⟨a, 0, none⟩ = some (.int .i64 n) ∧ w'.cell? ⟨a, 1, none⟩ = some v ∧ w'.cell? ⟨b, 0, none⟩ = some (.int .i64 m) ∧ w'.cell? ⟨b, 1, none⟩ = some u ∧ a < w'.heap.size ∧ b < w'.heap.size ∧ Below w.heap.size w w'
theorem CB2.drew {w w1 : World} {a b : Nat} {n m : Int} {v u : Value} (h : CB2 w a b n m v u w1) : CB2 w a b n m v u w1.drew := let ⟨a0, a1, b0, b1, z, z', l⟩ := h; ⟨a0, a1, b0, b1, z, z', l.drew⟩
theorem CB2.below {w w1 w2 : World} {a b : Nat} {n m : Int} {v u : Value} (h : CB2 w a b n m v u w1) (hb : Below w1.heap.size w1 w2) : CB2 w a b n m v u w2 :=
  let ⟨a0, a1, b0, b1, z, z', l⟩ := h
  ⟨cell_below a0 hb z, cell_below a1 hb z, cell_below b0 hb z', cell_below b1 hb z', Nat.lt_of_lt_of_le z hb.size, Nat.lt_of_lt_of_le z' hb.size, below_up l hb l.size⟩
/-- InverseCircuit: the number of qubits and the gates. -/
def icN (n : Int) (L : List Gt) : Int := if ciB n L then n else 0
def icL (n : Int) (L : List Gt) : List Gt := if ciB n L then invL L else []
theorem icL_len (n : Int) (L : List Gt) : (icL n L).length ≤ L.length := by
  unfold icL
  split
  · rw [invL_len]; exact Nat.le_refl _
  · exact Nat.zero_le _
theorem ccM_amps (n : Int) (L : List Gt) : (ccM n L).length ≤ 1048576 ∧ amps (ccM n L) ≤ 1048576 := by
  unfold ccM
  split
  · rename_i h
    unfold ciB at h
    simp only [Bool.and_eq_true, decide_eq_true_eq] at h
    have h16 : 2 ^ n.toNat ≤ 16 := pow_le16 h.2.1
    unfold cirM
    split
    · have hL := cirC_len L n.toNat
      have hc : (colsM (cirC L n.toNat)).length = 2 ^ n.toNat := by rw [colsM_len, hL]
      have hr := amps_rect (n := 2 ^ n.toNat) (M := colsM (cirC L n.toNat)) fun r hr => by
        obtain ⟨k, -, rfl⟩ := List.mem_map.1 hr
        rw [col_len, hL]
      refine ⟨by omega, ?_⟩
      rw [hr, hc]
      exact Nat.le_trans (Nat.mul_le_mul h16 h16) (by decide)
    · exact ⟨by decide, by decide⟩
  · exact ⟨by decide, by decide⟩
attribute [local irreducible] World.cell?
end Go.Proofs.Ytadimihfbpkilaa
namespace Go.Proofs.Ytadimihfbpkilaa
open Go.RowKit
def cntK (k : Int) (L : List Gt) : Nat := L.countP fun g => decide (g.k = k)
def cnt2 (L : List Gt) : Nat := L.countP fun g => decide (1 < ar g.k)
def cntT (L : List Gt) : Nat := cntK 7 L + cntK 8 L
theorem countP_step {p : Gt → Bool} {L : List Gt} {j : Nat} {x : Gt} (hx : L[j]? = some x) : (L.take (j + 1)).countP p = (L.take j).countP p + if p x then 1 else 0 := by
  rw [List.take_add_one, hx, List.countP_append]
  simp [List.countP_cons]
theorem countP_le {p : Gt → Bool} {L : List Gt} (j : Nat) : (L.take j).countP p ≤ j := Nat.le_trans List.countP_le_length (by rw [List.length_take]; omega)
theorem cntK_le (k : Int) (L : List Gt) : cntK k L ≤ L.length := List.countP_le_length
attribute [local irreducible] World.cell?
set_option maxRecDepth 100000 in
set_option maxHeartbeats 1600000 in
theorem scntK (B : Nat) (n k : Int) (v : Value) (L : List Gt) (w : World) (hv : gtE.Sl w B v L) (hm : L.length ≤ 1048576) :
    Calls Try.prog 63 #[.agg #[.int .i64 n, v], .int .i64 k] w fun e w' => e = .returned (.int .i64 (cntK k L)) ∧ Below w.heap.size w w' := by
  obtain ⟨a, cap, rfl, hcap, hr⟩ := hv
  have Hr := Lib.hid hr
  clear hr
  have HC0 := Lib.hid (heap_alloc_new w (.cells #[.int .i64 n, .slice a L.length cap] 46))
  have Hb0 := Lib.hid (show Below w.heap.size w (w.alloc (.cells #[.int .i64 n, .slice a L.length cap] 46)) by go_grown)
  go_enter Try.func63, Try.ntmps63
  go_wp2_with fail
  go_loopg [5, 6] L.length (fun m cv i wr => ∃ j : Nat, m = L.length - j ∧ j ≤ L.length ∧ cv = .int .i64 (cntK k (L.take j)) ∧ i = .int .i64 j ∧ Hid (wr.heap[w.heap.size]? = some (.cells #[.int .i64 n, .slice a L.length cap] 46 (0, 0))) ∧ Hid (Below w.heap.size w wr))
  case atStart => exact ⟨0, rfl, Nat.zero_le _, rfl, rfl, HC0, Hb0⟩
  case round =>
    obtain ⟨j, rfl, hj, rfl, rfl, HC, Hb⟩ := hrel
    obtain ⟨p0, p1⟩ := blk_cells2 HC.out
    have hCl := lt_of_block HC.out
    by_cases hlt : j < L.length
    · obtain ⟨g, rfl, _, hrow⟩ := Hr.out (by omega)
      obtain ⟨x, hx⟩ : ∃ x, L[j]? = some x := ⟨L[j], List.getElem?_eq_getElem hlt⟩
      have r1 := hrow.below Hb.out hrow.lt
      obtain ⟨c0, c1, c2, c3⟩ := GRow.cells r1 hx
      have hgl := r1.lt
      have Hst := Lib.hid (countP_step (p := fun g => decide (g.k = k)) hx)
      have hle := countP_le (p := fun g => decide (g.k = k)) (L := L) j
      unfold cntK
      clear hrow r1 hx
      by_cases hk : x.k = k
      · have Hst2 := Lib.hid (Hst.out.trans (by rw [if_pos (by simpa using hk)]))
        clear Hst
        generalize (L.take j).countP (fun g => decide (g.k = k)) = c at *
        go_wp2_with fail
        go_roundg (L.length - (j + 1))
        case measure => omega
        case rel => exact ⟨j + 1, rfl, by omega, by first | (unfold cntK; rw [Hst2.out]; go_num) | (unfold cnt2; rw [Hst2.out]; go_num), by go_num, HC, Hb⟩
      · have Hst2 := Lib.hid (Hst.out.trans (by rw [if_neg (by simpa using hk)]))
        clear Hst
        generalize (L.take j).countP (fun g => decide (g.k = k)) = c at *
        go_wp2_with fail
        go_roundg (L.length - (j + 1))
        case measure => omega
        case rel => exact ⟨j + 1, rfl, by omega, by first | (unfold cntK; rw [Hst2.out]; rfl) | (unfold cnt2; rw [Hst2.out]; rfl), by go_num, HC, Hb⟩
    · obtain rfl : j = L.length := by omega
      go_wp2_with fail
      go_ret
      exact ⟨by first | rfl | (rw [List.take_length]; rfl), Hb.out⟩
set_option maxRecDepth 100000 in
set_option maxHeartbeats 1600000 in
theorem scntT (B : Nat) (n : Int) (v : Value) (L : List Gt) (w : World) (hv : gtE.Sl w B v L) (hm : L.length ≤ 1048576) :
    Calls Try.prog 41 #[.agg #[.int .i64 n, v]] w fun e w' => e = .returned (.int .i64 (cntT L)) ∧ Below w.heap.size w w' := by
  have Hb0 := Lib.hid (show Below w.heap.size w (w.alloc (.cells #[.int .i64 n, v] 46)) by go_grown)
  have HX := Lib.hid (heap_alloc_new w (.cells #[.int .i64 n, v] 46))
  have Hv := Lib.hid (show gtE.Sl (w.alloc (.cells #[.int .i64 n, v] 46)).drew B v L from (hv.below ((Below.refl _ _).alloc (Nat.le_refl _) (.cells #[.int .i64 n, v] 46))).block fun _ _ _ => rfl)
  have H7 := Lib.hid (fun W (h : gtE.Sl W B v L) => scntK B n 7 v L W h hm)
  have H8 := Lib.hid (fun W (h : gtE.Sl W B v L) => scntK B n 8 v L W h hm)
  have h7 := cntK_le 7 L
  have h8 := cntK_le 8 L
  have hw : IntKind.i64.wrap ((cntK 7 L : Int) + (cntK 8 L : Int)) = (cntT L : Int) := by
    unfold cntT
    rw [IntKind.wrap_i64]
    omega
  generalize cntT L = T at *
  generalize cntK 7 L = c7 at *
  generalize cntK 8 L = c8 at *
  obtain ⟨c0, c1⟩ := blk_cells2 HX.out
  have hS : CB w w.heap.size n v (w.alloc (.cells #[.int .i64 n, v] 46)) := ⟨c0, c1, lt_of_block HX.out, Hb0.out⟩
  obtain ⟨pa, ca, rfl, -, -⟩ := hv
  go_enter Try.func41, Try.ntmps41
  go_upto_region 1 with fail
  go_region_held3 (fun w' => w'.cell? ⟨w.heap.size, 0, none⟩ = some (.int .i64 n) ∧ w'.cell? ⟨w.heap.size, 1, none⟩ = some (.slice pa L.length ca) ∧ w.heap.size < w'.heap.size ∧ Below w.heap.size w w') (first | (show CB _ _ _ _ _; (with_reducible exact hS.drew)) | (show CB _ _ _ _ _; exact hS.drew.below hbR) | (show CB _ _ _ _ _; (with_reducible refine CB.below ?_ hbR); first | assumption | exact ⟨by assumption, by assumption, by assumption, by assumption⟩))
    ((go_at_call 63; first
      | ((with_reducible refine (H7.out _ Hv.out).mono ?_); rintro e wR ⟨rfl, hbR⟩; have HvR := Lib.hid (Hv.out.below hbR); have HbR := Lib.hid hbR)
      | ((with_reducible refine (H8.out _ HvR.out).mono ?_); rintro e wQ ⟨rfl, hbR⟩; have HbQ := Lib.hid hbR)))
  have Hb1 := Lib.hid (below_nx Hb0.out.drew HbR.out)
  have Hb2 := Lib.hid (below_nx Hb1.out HbQ.out)
  go_wp2_with fail
  go_ret
  exact ⟨rfl, Hb2.out⟩
end Go.Proofs.Ytadimihfbpkilaa
namespace Go.Proofs.Ytadimihfbpkilaa
open Go.RowKit
attribute [local irreducible] World.cell?
set_option maxRecDepth 100000 in
set_option maxHeartbeats 1600000 in
theorem lsame (B C : Nat) (v u : Value) (l : List Gt) (w : World) (hv : gtE.Sl w B v l) (hu : gtE.Sl w C u l) (hm : l.length ≤ 16777216) :
    Calls Try.prog 11 #[v, u] w fun e w' => e = .returned (.bool true) ∧ Below w.heap.size w w' := by
  obtain ⟨a, cap, rfl, hcap, hr⟩ := hv
  obtain ⟨a', cap', rfl, hcap', hr'⟩ := hu
  have Hr := Lib.hid hr
  have Hr' := Lib.hid hr'
  clear hr hr'
  have hd2 : ((l.length : Int) != l.length) = false := by simp
  go_enter Try.func11, Try.ntmps11
  go_wp2_with fail
  go_loopg [5] l.length (fun n i wr => ∃ j : Nat, n = l.length - j ∧ j ≤ l.length ∧ i = .int .i64 j ∧ Hid (Below w.heap.size w wr))
  case atStart => exact ⟨0, rfl, Nat.zero_le _, rfl, Below.refl _ _⟩
  case round =>
    obtain ⟨j, rfl, hj, rfl, Hb⟩ := hrel
    by_cases hlt : j < l.length
    · obtain ⟨g, rfl, _, hrow⟩ := Hr.out (by omega)
      obtain ⟨g', rfl, _, hrow'⟩ := Hr'.out (by omega)
      obtain ⟨x, hx⟩ : ∃ x, l[j]? = some x := ⟨l[j], List.getElem?_eq_getElem hlt⟩
      have r1 := hrow.below Hb.out hrow.lt
      have r2 := hrow'.below Hb.out hrow'.lt
      obtain ⟨c0, c1, c2, c3⟩ := GRow.cells r1 hx
      obtain ⟨d0, d1, d2, d3⟩ := GRow.cells r2 hx
      have hgl := r1.lt
      have hgl' := r2.lt
      have hjI : (0 : Int) ≤ (j : Int) := by omega
      have hjL : (j : Int) < (l.length : Int) := by omega
      clear r1 r2 hrow hrow' hx
      go_upto_region 6 with fail
      go_quiet (fail)
      go_wp2_with fail
      go_roundg (l.length - (j + 1))
      case measure => omega
      case rel => exact ⟨j + 1, rfl, by omega, by go_num, Lib.hid (below_dn Hb.out _)⟩
    · obtain rfl : j = l.length := by omega
      go_wp2_with fail
      go_ret
      exact ⟨rfl, Hb.out⟩
set_option maxRecDepth 100000 in
set_option maxHeartbeats 800000 in
theorem ltc (B : Nat) (v : Value) (l : List Gt) (w : World) (hv : gtE.Sl w B v l) (hm : l.length ≤ 1048576) :
    Calls Try.prog 19 #[v] w fun e w' => e = .returned (.int .i64 (cntT l)) ∧ Below w.heap.size w w' := by
  have Hc := Lib.hid (scntT B 0 v l w hv hm)
  obtain ⟨pa, ca, rfl, -, -⟩ := id hv
  clear hv
  go_enter Try.func19, Try.ntmps19
  go_wp2_with fail
  refine (Hc.out).mono ?_
  rintro e w1 ⟨rfl, hb1⟩
  have Hb := Lib.hid hb1
  clear hb1
  go_wp2_with fail
  go_ret
  exact ⟨rfl, Hb.out⟩
end Go.Proofs.Ytadimihfbpkilaa
