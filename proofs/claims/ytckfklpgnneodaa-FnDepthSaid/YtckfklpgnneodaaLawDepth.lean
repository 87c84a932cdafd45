/- The law FnDepth: the depth of a concatenation lies between those of its parts and their sum, and the counts add up, at every code. No condition. -/
import Derived.Test.YtckfklpgnneodaaInit
import Derived.Test.YtckfklpgnneodaaLyKc
import Derived.Test.YtckfklpgnneodaaLyKl
import Derived.Test.YtckfklpgnneodaaLyF
import Derived.Test.YtckfklpgnneodaaLyC
import Derived.Test.YtckfklpgnneodaaCiD
import Derived.Test.YtckfklpgnneodaaBaseB10
import Derived.Test.YtckfklpgnneodaaCiN
import Derived.Lib.SmallJoins
import Derived.WalkKit
import Derived.ProofKit
import Derived.OpenShut
import Derived.Deep.DeepHandedRow
import Derived.Lib.LaidTab
import Derived.LaidMore
import Derived.LaidHandle
import Derived.Lay
import Derived.Stop.LaidErr
namespace Go.Proofs.Ytckfklpgnneodaa.fnDepth
open Go.ChangeShapes Go.WideShapes Go.ChangeAt Go.RowKit Go.Lib
/-- Three circuits' boxes. -/
def CB3 (w : World) (a b c : Nat) (n m q : Int) (v u x : Value) (w' : World) : Prop := w'.cell? ⟨a, 0, none⟩ = some (.int .i64 n) ∧ w'.cell? ⟨a, 1, none⟩ = some v ∧ w'.cell? ⟨b, 0, none⟩ = some (.int .i64 m) ∧ w'.cell? ⟨b, 1, none⟩ = some u ∧ w'.cell? ⟨c, 0, none⟩ = some (.int .i64 q) ∧ w'.cell? ⟨c, 1, none⟩ = some x ∧ a < w'.heap.size ∧ b < w'.heap.size ∧ c < w'.heap.size ∧ Below w.heap.size w w'
theorem CB3.drew {w w1 : World} {a b c : Nat} {n m q : Int} {v u x : Value} (h : CB3 w a b c n m q v u x w1) : CB3 w a b c n m q v u x w1.drew := let ⟨a0, a1, b0, b1, c0, c1, z, y, t, l⟩ := h; ⟨a0, a1, b0, b1, c0, c1, z, y, t, l.drew⟩
theorem CB3.below {w w1 w2 : World} {a b c : Nat} {n m q : Int} {v u x : Value} (h : CB3 w a b c n m q v u x w1) (hb : Below w1.heap.size w1 w2) : CB3 w a b c n m q v u x w2 :=
  let ⟨a0, a1, b0, b1, c0, c1, z, y, t, l⟩ := h
  ⟨cell_below a0 hb z, cell_below a1 hb z, cell_below b0 hb y, cell_below b1 hb y, cell_below c0 hb t, cell_below c1 hb t, Nat.lt_of_lt_of_le z hb.size, Nat.lt_of_lt_of_le y hb.size, Nat.lt_of_lt_of_le t hb.size, below_up l hb l.size⟩
theorem cntT_app (L M : List Gt) : cntT (L ++ M) = cntT L + cntT M := by
  unfold cntT cntK
  rw [List.countP_append, List.countP_append]
  omega
theorem cnt2_app (L M : List Gt) : cnt2 (L ++ M) = cnt2 L + cnt2 M := List.countP_append
/-- What the law asks of a concatenation. -/
theorem law_depth {n m : Int} {L M : List Gt} (h : cjB n L m M = true) :
    (lysM (cjN n L m M) (cjL n L m M)).length ≤ (lysM n L).length + (lysM m M).length ∧ (lysM n L).length ≤ (lysM (cjN n L m M) (cjL n L m M)).length ∧ (lysM m M).length ≤ (lysM (cjN n L m M) (cjL n L m M)).length ∧ cntT (cjL n L m M) = cntT L + cntT M ∧ cnt2 (cjL n L m M) = cnt2 L + cnt2 M := by
  unfold cjN cjL
  rw [if_pos h, if_pos h]
  unfold cjB at h
  simp only [Bool.and_eq_true, decide_eq_true_eq] at h
  obtain ⟨h1, h2, rfl, h4⟩ := h
  unfold lysM
  rw [if_pos h1, if_pos h2, if_pos h4]
  obtain ⟨d1, d2, d3⟩ := depth_app L M
  exact ⟨d1, d2, d3, cntT_app L M, cnt2_app L M⟩
theorem cntT_le (L : List Gt) : cntT L ≤ 2 * L.length := by
  have h1 := cntK_le 7 L
  have h2 := cntK_le 8 L
  unfold cntT
  omega
theorem cnt2_le (L : List Gt) : cnt2 L ≤ L.length := List.countP_le_length
attribute [local irreducible] World.cell?
set_option maxRecDepth 100000 in
set_option maxHeartbeats 12800000 in
theorem core (a0 : Option Addr) (len cap : Nat) (hs : len ≤ 1048576) (_ : len ≤ cap) (w : World) (hcode : CodeAt w w.heap.size a0 len) :
    Calls Try.prog 3 #[.slice a0 len cap] w fun e w' => e = .returned (.bool true) ∧ Below w.heap.size w w' := by
  have Hc := Lib.hid hcode
  have Hb := Lib.hid (Below.refl w.heap.size w)
  clear hcode
  go_enter Try.func3, Try.ntmps3
  go_wp2_with (go_at_call 10; go_in)
  refine (drawConcatCircuits a0 len cap _ Hc.out).mono ?_
  rintro e w1 ⟨⟨n, m, u, v, L, M, rfl, hci, hcm, hu, hv⟩, hb1⟩
  obtain ⟨pa0, qa0, rfl, -, -⟩ := id hu
  obtain ⟨pb0, qb0, rfl, -, -⟩ := id hv
  have hln : L.length ≤ 61 := hci.2.1
  have hlm : M.length ≤ 61 := hcm.2.1
  have n0 : -9223372036854775808 ≤ n := by have := hci.1; omega
  have n1 : n ≤ 9223372036854775807 := by have := hci.1; omega
  have m0 : -9223372036854775808 ≤ m := by have := hcm.1; omega
  have m1 : m ≤ 9223372036854775807 := by have := hcm.1; omega
  have HU := Lib.hid (fun h => law_depth (n := n) (m := m) (L := L) (M := M) h)
  have Hsj := Lib.hid (fun W A C u v (h1 : gtE.Sl W A u L) (h2 : gtE.Sl W C v M) => sconcat A C n m u v L M W h1 h2 (by omega))
  have hJl : (cjL n L m M).length ≤ 122 := by unfold cjL; split <;> simp <;> omega
  have q0 : -9223372036854775808 ≤ cjN n L m M := by unfold cjN; split <;> omega
  have q1 : cjN n L m M ≤ 9223372036854775807 := by unfold cjN; split <;> omega
  generalize cjB n L m M = okj at *
  generalize cjL n L m M = J at *
  generalize cjN n L m M = q at *
  have Hda := Lib.hid (fun W B v (h : gtE.Sl W B v L) => idepth B n v L W h (by omega) n0 n1)
  have Hdb := Lib.hid (fun W B v (h : gtE.Sl W B v M) => idepth B m v M W h (by omega) m0 m1)
  have Hdj := Lib.hid (fun W B v (h : gtE.Sl W B v J) => idepth B q v J W h (by omega) q0 q1)
  have Hsa := Lib.hid (fun W B v (h : gtE.Sl W B v L) => sdepth B n v L W h (by omega))
  have Hsd := Lib.hid (fun W B v (h : gtE.Sl W B v J) => sdepth B q v J W h (by omega))
  have Hta := Lib.hid (fun W B v (h : gtE.Sl W B v L) => icntT B n v L W h (by omega))
  have Htb := Lib.hid (fun W B v (h : gtE.Sl W B v M) => icntT B m v M W h (by omega))
  have Htj := Lib.hid (fun W B v (h : gtE.Sl W B v J) => icntT B q v J W h (by omega))
  have Hca := Lib.hid (fun W B v (h : gtE.Sl W B v L) => icnt2 B n v L W h (by omega))
  have Hcb := Lib.hid (fun W B v (h : gtE.Sl W B v M) => icnt2 B m v M W h (by omega))
  have Hcj := Lib.hid (fun W B v (h : gtE.Sl W B v J) => icnt2 B q v J W h (by omega))
  have hA := Nat.le_trans (lysM_amps n L).1 hln
  have hB := Nat.le_trans (lysM_amps m M).1 hlm
  have hJ := Nat.le_trans (lysM_amps q J).1 hJl
  have tA := Nat.le_trans (cntT_le L) (Nat.mul_le_mul_left 2 hln)
  have tB := Nat.le_trans (cntT_le M) (Nat.mul_le_mul_left 2 hlm)
  have cA := Nat.le_trans (cnt2_le L) hln
  have cB := Nat.le_trans (cnt2_le M) hlm
  generalize (lysM n L).length = dA at *
  generalize (lysM m M).length = dB at *
  generalize (lysM q J).length = dJ at *
  generalize cntT L = xA at *
  generalize cntT M = xB at *
  generalize cntT J = xJ at *
  generalize cnt2 L = yA at *
  generalize cnt2 M = yB at *
  generalize cnt2 J = yJ at *
  clear q0 q1 n0 n1 m0 m1 hci hcm
  have hy1 := hb1.size
  have HBa := Lib.hid (alloc_blk (.cells #[.int .i64 m, .slice pb0 M.length qb0] 26) (heap_alloc_new w1 (.cells #[.int .i64 n, .slice pa0 L.length qa0] 26)))
  have HBb := Lib.hid (show ((w1.alloc (.cells #[.int .i64 n, .slice pa0 L.length qa0] 26)).alloc (.cells #[.int .i64 m, .slice pb0 M.length qb0] 26)).heap[w1.heap.size + 1]? = some (.cells #[.int .i64 m, .slice pb0 M.length qb0] 26 (0, 0)) by
    simpa using heap_alloc_new (w1.alloc (.cells #[.int .i64 n, .slice pa0 L.length qa0] 26)) (.cells #[.int .i64 m, .slice pb0 M.length qb0] 26))
  have hb2 : Below w1.heap.size w1 ((w1.alloc (.cells #[.int .i64 n, .slice pa0 L.length qa0] 26)).alloc (.cells #[.int .i64 m, .slice pb0 M.length qb0] 26)) := by go_grown
  have Ha0 := Lib.hid ((hu.below hb2).upto)
  have Hb0 := Lib.hid ((hv.below hb2).upto)
  have Hb := Lib.hid (below_nx (below_nx Hb.out hb1) hb2)
  clear hu hv hb1 hb2
  obtain ⟨ba0, ba1⟩ := blk_cells2 HBa.out
  have bal := lt_of_block HBa.out
  obtain ⟨bb0, bb1⟩ := blk_cells2 HBb.out
  have bbl := lt_of_block HBb.out
  go_wp2_with fail
  refine (Hsj.out _ _ _ _ _ Ha0.out.sl Hb0.out.sl).mono ?_
  rintro e w2 ⟨⟨vj0, rfl, hd2⟩, hb2⟩
  obtain ⟨pj0, qj0, rfl, -, -⟩ := id hd2
  have Hj0 := Lib.hid hd2.upto
  have Hj0 := Lib.hid (Hj0.out.below ((Below.refl _ _).alloc (Nat.le_refl _) (.cells #[.int .i64 q, .slice pj0 J.length qj0] 26)))
  have hy2 := hb2.size
  have hb2 := hb2.alloc hb2.size (.cells #[.int .i64 q, .slice pj0 J.length qj0] 26)
  have Ha0 := Lib.hid (Ha0.out.below hb2)
  have Hb0 := Lib.hid (Hb0.out.below hb2)
  have Hb := Lib.hid (below_nx Hb.out hb2)
  have hz2 := hb2.size
  simp only [size_alloc1] at hz2
  have ha2 := size_alloc1 w2 (.cells #[.int .i64 q, .slice pj0 J.length qj0] 26)
  have HBa := Lib.hid (below_blk hb2 (lt_of_block HBa.out) HBa.out)
  have HBb := Lib.hid (below_blk hb2 (lt_of_block HBb.out) HBb.out)
  have HBj := Lib.hid (heap_alloc_new w2 (.cells #[.int .i64 q, .slice pj0 J.length qj0] 26))
  clear hb2 hd2
  clear ba0 ba1 bal
  obtain ⟨ba0, ba1⟩ := blk_cells2 HBa.out
  have bal := lt_of_block HBa.out
  clear bb0 bb1 bbl
  obtain ⟨bb0, bb1⟩ := blk_cells2 HBb.out
  have bbl := lt_of_block HBb.out
  obtain ⟨bj0, bj1⟩ := blk_cells2 HBj.out
  have bjl := lt_of_block HBj.out
  cases okj with
  | false =>
    have hS : CB3 (w2.alloc (.cells #[.int .i64 q, .slice pj0 J.length qj0] 26)) w1.heap.size (w1.heap.size + 1) w2.heap.size n m q (.slice pa0 L.length qa0) (.slice pb0 M.length qb0) (.slice pj0 J.length qj0) (w2.alloc (.cells #[.int .i64 q, .slice pj0 J.length qj0] 26)) := ⟨ba0, ba1, bb0, bb1, bj0, bj1, bal, bbl, bjl, Below.refl _ _⟩
    have Ha1 := Lib.hid (show gtE.Sc (w2.alloc (.cells #[.int .i64 q, .slice pj0 J.length qj0] 26)).drew _ _ _ L from Ha0.out)
    have Hb1 := Lib.hid (show gtE.Sc (w2.alloc (.cells #[.int .i64 q, .slice pj0 J.length qj0] 26)).drew _ _ _ M from Hb0.out)
    have Hj1 := Lib.hid (show gtE.Sc (w2.alloc (.cells #[.int .i64 q, .slice pj0 J.length qj0] 26)).drew _ _ _ J from Hj0.out)
    have HbD := Lib.hid (show Below (w2.alloc (.cells #[.int .i64 q, .slice pj0 J.length qj0] 26)).heap.size (w2.alloc (.cells #[.int .i64 q, .slice pj0 J.length qj0] 26)) (w2.alloc (.cells #[.int .i64 q, .slice pj0 J.length qj0] 26)).drew from (Below.refl _ _).drew)
    go_upto_region 6 with fail
    go_region_held3 (fun w' => w'.cell? ⟨w1.heap.size, 0, none⟩ = some (.int .i64 n) ∧ w'.cell? ⟨w1.heap.size, 1, none⟩ = some (.slice pa0 L.length qa0) ∧ w'.cell? ⟨(w1.heap.size + 1), 0, none⟩ = some (.int .i64 m) ∧ w'.cell? ⟨(w1.heap.size + 1), 1, none⟩ = some (.slice pb0 M.length qb0) ∧ w'.cell? ⟨w2.heap.size, 0, none⟩ = some (.int .i64 q) ∧ w'.cell? ⟨w2.heap.size, 1, none⟩ = some (.slice pj0 J.length qj0) ∧ w1.heap.size < w'.heap.size ∧ (w1.heap.size + 1) < w'.heap.size ∧ w2.heap.size < w'.heap.size ∧ Below (w2.alloc (.cells #[.int .i64 q, .slice pj0 J.length qj0] 26)).heap.size (w2.alloc (.cells #[.int .i64 q, .slice pj0 J.length qj0] 26)) w') (first | (show CB3 _ _ _ _ _ _ _ _ _ _ _; (with_reducible exact hS.drew)) | (show CB3 _ _ _ _ _ _ _ _ _ _ _; (with_reducible refine CB3.below ?_ hbR); first | assumption | exact ⟨by assumption, by assumption, by assumption, by assumption, by assumption, by assumption, by assumption, by assumption, by assumption, by assumption⟩))
      (first
        | (go_at_call 13; (with_reducible refine (Hda.out _ _ _ Ha1.out.sl).mono ?_); rintro e wR0 ⟨rfl, hbR⟩; have Ha1 := Lib.hid (Ha1.out.below hbR); have Hb1 := Lib.hid (Hb1.out.below hbR); have Hj1 := Lib.hid (Hj1.out.below hbR); have HbD := Lib.hid (below_nx HbD.out hbR))
        | (go_at_call 14; (with_reducible refine (Hsa.out _ _ _ Ha1.out.sl).mono ?_); rintro e wR1 ⟨rfl, hbR⟩; have Ha1 := Lib.hid (Ha1.out.below hbR); have Hb1 := Lib.hid (Hb1.out.below hbR); have Hj1 := Lib.hid (Hj1.out.below hbR); have HbD := Lib.hid (below_nx HbD.out hbR)))
    go_wp2_with fail
    go_ret
    exact ⟨rfl, (below_nx Hb.out HbD.out)⟩
  | true =>
    obtain ⟨k1, k2, k3, rfl, rfl⟩ := HU.out (by trivial)
    go_wp2_with fail
    refine (Hdj.out _ _ _ Hj0.out.sl).mono ?_
    rintro e w3 ⟨rfl, hb3⟩
    have Ha0 := Lib.hid (Ha0.out.below hb3)
    have Hb0 := Lib.hid (Hb0.out.below hb3)
    have Hj0 := Lib.hid (Hj0.out.below hb3)
    have Hb := Lib.hid (below_nx Hb.out hb3)
    have hz3 := hb3.size
    simp only [size_alloc1] at hz3
    have HBa := Lib.hid (below_blk hb3 (lt_of_block HBa.out) HBa.out)
    have HBb := Lib.hid (below_blk hb3 (lt_of_block HBb.out) HBb.out)
    have HBj := Lib.hid (below_blk hb3 (lt_of_block HBj.out) HBj.out)
    clear hb3
    clear ba0 ba1 bal
    obtain ⟨ba0, ba1⟩ := blk_cells2 HBa.out
    have bal := lt_of_block HBa.out
    clear bb0 bb1 bbl
    obtain ⟨bb0, bb1⟩ := blk_cells2 HBb.out
    have bbl := lt_of_block HBb.out
    clear bj0 bj1 bjl
    obtain ⟨bj0, bj1⟩ := blk_cells2 HBj.out
    have bjl := lt_of_block HBj.out
    have s1 : IntKind.i64.wrap ((dA : Int) + (dB : Int)) = (dA : Int) + (dB : Int) := IntWalk.i64_in _ (by omega)
    have s2 : IntKind.i64.wrap ((xA : Int) + (xB : Int)) = (xA : Int) + (xB : Int) := IntWalk.i64_in _ (by omega)
    have s3 : IntKind.i64.wrap ((yA : Int) + (yB : Int)) = (yA : Int) + (yB : Int) := IntWalk.i64_in _ (by omega)
    have e1 : decide ((dJ : Int) ≤ (dA : Int) + (dB : Int)) = true := decide_eq_true (by omega)
    have e2 : decide ((dA : Int) ≤ (dJ : Int)) = true := decide_eq_true (by omega)
    have e3 : decide ((dB : Int) ≤ (dJ : Int)) = true := decide_eq_true (by omega)
    have hS : CB3 w3 w1.heap.size (w1.heap.size + 1) w2.heap.size n m q (.slice pa0 L.length qa0) (.slice pb0 M.length qb0) (.slice pj0 J.length qj0) w3 := ⟨ba0, ba1, bb0, bb1, bj0, bj1, bal, bbl, bjl, Below.refl _ _⟩
    have Ha1 := Lib.hid (show gtE.Sc w3.drew _ _ _ L from Ha0.out)
    have Hb1 := Lib.hid (show gtE.Sc w3.drew _ _ _ M from Hb0.out)
    have Hj1 := Lib.hid (show gtE.Sc w3.drew _ _ _ J from Hj0.out)
    have HbD := Lib.hid (show Below w3.heap.size w3 w3.drew from (Below.refl _ _).drew)
    go_upto_region 8 with fail
    go_region_held3 (fun w' => w'.cell? ⟨w1.heap.size, 0, none⟩ = some (.int .i64 n) ∧ w'.cell? ⟨w1.heap.size, 1, none⟩ = some (.slice pa0 L.length qa0) ∧ w'.cell? ⟨(w1.heap.size + 1), 0, none⟩ = some (.int .i64 m) ∧ w'.cell? ⟨(w1.heap.size + 1), 1, none⟩ = some (.slice pb0 M.length qb0) ∧ w'.cell? ⟨w2.heap.size, 0, none⟩ = some (.int .i64 q) ∧ w'.cell? ⟨w2.heap.size, 1, none⟩ = some (.slice pj0 J.length qj0) ∧ w1.heap.size < w'.heap.size ∧ (w1.heap.size + 1) < w'.heap.size ∧ w2.heap.size < w'.heap.size ∧ Below w3.heap.size w3 w') (first | (show CB3 _ _ _ _ _ _ _ _ _ _ _; (with_reducible exact hS.drew)) | (show CB3 _ _ _ _ _ _ _ _ _ _ _; (with_reducible refine CB3.below ?_ hbR); first | assumption | exact ⟨by assumption, by assumption, by assumption, by assumption, by assumption, by assumption, by assumption, by assumption, by assumption, by assumption⟩))
      (first
        | (go_at_call 13; (with_reducible refine (Hda.out _ _ _ Ha1.out.sl).mono ?_); rintro e wR0 ⟨rfl, hbR⟩; have Ha1 := Lib.hid (Ha1.out.below hbR); have Hb1 := Lib.hid (Hb1.out.below hbR); have Hj1 := Lib.hid (Hj1.out.below hbR); have HbD := Lib.hid (below_nx HbD.out hbR))
        | (go_at_call 13; (with_reducible refine (Hdb.out _ _ _ Hb1.out.sl).mono ?_); rintro e wR1 ⟨rfl, hbR⟩; have Ha1 := Lib.hid (Ha1.out.below hbR); have Hb1 := Lib.hid (Hb1.out.below hbR); have Hj1 := Lib.hid (Hj1.out.below hbR); have HbD := Lib.hid (below_nx HbD.out hbR))
        | (go_at_call 14; (with_reducible refine (Hsd.out _ _ _ Hj1.out.sl).mono ?_); rintro e wR2 ⟨rfl, hbR⟩; have Ha1 := Lib.hid (Ha1.out.below hbR); have Hb1 := Lib.hid (Hb1.out.below hbR); have Hj1 := Lib.hid (Hj1.out.below hbR); have HbD := Lib.hid (below_nx HbD.out hbR))
        | (go_at_call 15; (with_reducible refine (Htj.out _ _ _ Hj1.out.sl).mono ?_); rintro e wR3 ⟨rfl, hbR⟩; have Ha1 := Lib.hid (Ha1.out.below hbR); have Hb1 := Lib.hid (Hb1.out.below hbR); have Hj1 := Lib.hid (Hj1.out.below hbR); have HbD := Lib.hid (below_nx HbD.out hbR))
        | (go_at_call 15; (with_reducible refine (Hta.out _ _ _ Ha1.out.sl).mono ?_); rintro e wR4 ⟨rfl, hbR⟩; have Ha1 := Lib.hid (Ha1.out.below hbR); have Hb1 := Lib.hid (Hb1.out.below hbR); have Hj1 := Lib.hid (Hj1.out.below hbR); have HbD := Lib.hid (below_nx HbD.out hbR))
        | (go_at_call 15; (with_reducible refine (Htb.out _ _ _ Hb1.out.sl).mono ?_); rintro e wR5 ⟨rfl, hbR⟩; have Ha1 := Lib.hid (Ha1.out.below hbR); have Hb1 := Lib.hid (Hb1.out.below hbR); have Hj1 := Lib.hid (Hj1.out.below hbR); have HbD := Lib.hid (below_nx HbD.out hbR))
        | (go_at_call 16; (with_reducible refine (Hcj.out _ _ _ Hj1.out.sl).mono ?_); rintro e wR6 ⟨rfl, hbR⟩; have Ha1 := Lib.hid (Ha1.out.below hbR); have Hb1 := Lib.hid (Hb1.out.below hbR); have Hj1 := Lib.hid (Hj1.out.below hbR); have HbD := Lib.hid (below_nx HbD.out hbR))
        | (go_at_call 16; (with_reducible refine (Hca.out _ _ _ Ha1.out.sl).mono ?_); rintro e wR7 ⟨rfl, hbR⟩; have Ha1 := Lib.hid (Ha1.out.below hbR); have Hb1 := Lib.hid (Hb1.out.below hbR); have Hj1 := Lib.hid (Hj1.out.below hbR); have HbD := Lib.hid (below_nx HbD.out hbR))
        | (go_at_call 16; (with_reducible refine (Hcb.out _ _ _ Hb1.out.sl).mono ?_); rintro e wR8 ⟨rfl, hbR⟩; have Ha1 := Lib.hid (Ha1.out.below hbR); have Hb1 := Lib.hid (Hb1.out.below hbR); have Hj1 := Lib.hid (Hj1.out.below hbR); have HbD := Lib.hid (below_nx HbD.out hbR)))
    go_wp2_with fail
    go_ret
    exact ⟨rfl, (below_nx Hb.out HbD.out)⟩
set_option maxRecDepth 100000 in
set_option maxHeartbeats 400000 in
theorem walk (a0 : Option Addr) (len cap : Nat) (w : World) (hm : len ≤ maxLen) (hlc : len ≤ cap) (hc : len ≤ 1048576 → CodeAt w w.heap.size a0 len) :
    Calls Try.prog 3 #[.slice a0 len cap] w fun e w' => e = .returned (.bool true) ∧ Below w.heap.size w w' := by
  by_cases hs : len ≤ 1048576
  · exact core a0 len cap hs hlc w (hc hs)
  · unfold maxLen at hm
    clear hc
    go_enter Try.func3, Try.ntmps3
    go_wp2_with (go_at_call 10; go_in)
    go_ret
    exact ⟨rfl, Below.refl _ _⟩
open Go.ChangeMaps (open_string shut_string)
theorem laidOut : laidOutB Try.prog = true := by kernel_rfl
theorem own : ownKnob Try.prog.godebug = none := by kernel_rfl
set_option maxRecDepth 100000 in
/-- What the walk gives, for every argument. -/
theorem contract (H : Type) (enc : TypeId × Value → H) (W : World) (base : Nat) (args : Array Value) (ds gs : List (DataW H)) (before : List MemPlace)
    (hval : ∀ (j : Nat) t v, Try.f3.params[j]? = some t → args[j]? = some v → Value.okWide Try.prog W .any base t v)
    (hW : DataW.Whole enc Try.prog Try.f3.params.toList Rows.fnDepthSpec.vars false W args.toList ds gs before) :
    Calls Try.prog 3 args W fun e W' => ∃ v, e = .returned v ∧ Rows.fnDepthSpec.post enc Try.prog Try.f3 false true false false W args v W' := by
  have hW' := hW
  obtain ⟨p, q, hA0, hV, rfl, hfz, hnd⟩ := hW
  have hA : DataW.TrodAll enc Try.prog W 0 (fun _ => true) true Try.f3.params.toList args.toList ds p := hA0
  rw [Try.params3] at hA hval
  obtain ⟨v0, vs0, d0, ds0, p0, q0, hargs, rfl, rfl, h0, r0⟩ := trodAll_cons hA
  obtain ⟨rfl, rfl, rfl⟩ := trodAll_nil r0
  obtain rfl : args = #[v0] := by cases args; simp_all
  obtain ⟨rfl, rfl⟩ := trodVars_none hV
  obtain ⟨ca, cl, cc, rfl⟩ := okWide_slice Try.underlying22 (hval 0 22 v0 rfl rfl)
  have k0 := h0
  have lt0 : ∀ x ∈ p0, x.block < W.heap.size := by obtain ⟨m, hm⟩ := k0; exact DataW.trod_lt m _ _ _ hm
  have ch : (cl ≤ 1048576 → CodeAt W W.heap.size ca cl) ∧ cl ≤ maxLen ∧ cl ≤ cc := by
    obtain ⟨fuel, hf⟩ := h0
    rcases open_ints Try.underlying22 Try.underlying5 (by kernel_rfl) hf with ⟨hcs, _⟩ | ⟨x, l, c, zs, hcs, _, hl, hm, hz, _, hcell, hwz⟩
    · simp [Value.cells] at hcs
      obtain ⟨rfl, rfl, rfl⟩ := hcs
      exact ⟨fun _ => ⟨by omega, fun h => absurd h (by omega)⟩, Nat.zero_le _, Nat.le_refl _⟩
    · simp [Value.cells] at hcs
      obtain ⟨rfl, rfl, rfl⟩ := hcs
      have hz2 : zs.length = cc := by simpa using hz
      exact ⟨fun hs => code_of hs (by omega) hcell hwz, by omega, hl⟩
  clear hA0
  simp only [List.append_nil] at hW'
  refine (walk ca cl cc W ch.2.1 ch.2.2 ch.1).mono fun e W' ⟨he, hg⟩ => ?_
  subst he
  exact ⟨_, rfl, _, _, _, [], _, [], hW', trodAll_mk1 (shut_bool Try.underlying4 _), (trodAll_cons_mk (Below.trod laidOut (by kernel_rfl) (of_decide_eq_true (by kernel_rfl)) k0 hg lt0) trodAll_mk0), rfl, hg.frame _, fun h => by cases h⟩
set_option maxRecDepth 100000 in
theorem lifted (os : Os) (started : os.Started) (H : Type) (enc : TypeId × Value → H) :
    ReturnsInHanded {} Try.checked os 3 .any (Rows.fnDepthSpec.pre6 enc Try.prog Try.f3 Rows.fnDepthRow.domain false) (Rows.fnDepthSpec.post enc Try.prog Try.f3 false true false false) := by
  refine returnsInHanded_of_change (C := Try.checked) own started (by kernel_rfl) Try.func3
    (ChangeSpec.witness6 (enc := enc) (C := Try.checked) false ⟨#[], #[.slice none 0 0], []⟩ 8 (by kernel_rfl) (by kernel_rfl) (by kernel_rfl) (by kernel_rfl)) ?_
  intro W base args ds gs before hval hW _ _
  exact contract H enc W base args ds gs before hval hW
theorem closedFacts : joinedFacts Try.pinned.checked.prog 3 Try.f3 Rows.fnDepthSpec Rows.fnDepthRow = true := by
  unfold joinedFacts
  rw [init_may, init_facts.2.1, init_facts.2.2]
  kernel_rfl
theorem said : Rows.FnDepthSaid :=
  OpenClaim.holds_of_wide 3 Try.f3 rfl rfl rfl rfl rfl rfl rfl ⟨rfl, rfl, rfl, rfl, rfl⟩ rfl rfl rfl rfl rfl (by kernel_rfl) Try.func3 closedFacts
    (of_decide_eq_true (by kernel_rfl)) (by unfold Func.isWrapper; first | (rw [if_pos (by decide +kernel)]; kernel_rfl) | (rw [if_neg (by decide +kernel)]; exact ⟨rfl, rfl⟩))
    (fun os started H enc _ => lifted os started H enc)
end Go.Proofs.Ytckfklpgnneodaa.fnDepth
