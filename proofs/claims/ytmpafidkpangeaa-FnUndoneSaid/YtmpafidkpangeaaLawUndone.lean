/- The law FnUndone: a circuit followed by its inverse is the identity, at every code. No condition. -/
import Derived.Test.YtmpafidkpangeaaInit
import Derived.Test.YtmpafidkpangeaaBaseB92
import Derived.Test.YtmpafidkpangeaaBaseB23
import Derived.Test.YtmpafidkpangeaaBaseB25
import Derived.Lib.SmallJoins
import Derived.WalkKit
import Derived.ProofKit
import Derived.OpenShut
import Derived.Deep.DeepHandedRow
import Derived.Lib.LaidTab
import Derived.LaidMore
import Derived.LaidHandle
import Derived.Lay
import Derived.Stop.LaidErr
namespace Go.Proofs.Ytmpafidkpangeaa.fnUndone
open Go.ChangeShapes Go.WideShapes Go.ChangeAt Go.RowKit Go.Lib
attribute [local irreducible] World.cell?
set_option maxRecDepth 100000 in
set_option maxHeartbeats 12800000 in
theorem core (a0 : Option Addr) (len cap : Nat) (hs : len ≤ 1048576) (_ : len ≤ cap) (w : World) (hcode : CodeAt w w.heap.size a0 len) :
    Calls Try.prog 3 #[.slice a0 len cap] w fun e w' => e = .returned (.bool true) ∧ Below w.heap.size w w' := by
  have Hc := Lib.hid hcode
  have Hb := Lib.hid (Below.refl w.heap.size w)
  clear hcode
  go_enter Try.func3, Try.ntmps3
  go_wp2_with (go_at_call 11; go_in)
  refine (drawInverseCircuit a0 len cap _ Hc.out).mono ?_
  rintro e w1 ⟨⟨n, vc0, L, rfl, hci, hd1⟩, hb1⟩
  obtain ⟨pc0, qc0, rfl, -, -⟩ := id hd1
  have Hc0 := Lib.hid hd1.upto
  have Hc0 := Lib.hid (Hc0.out.below ((Below.refl _ _).alloc (Nat.le_refl _) (.cells #[.int .i64 n, .slice pc0 L.length qc0] 26)))
  have hy1 := hb1.size
  have hb1 := hb1.alloc hb1.size (.cells #[.int .i64 n, .slice pc0 L.length qc0] 26)
  have Hb := Lib.hid (below_nx Hb.out hb1)
  have hz1 := hb1.size
  simp only [size_alloc1] at hz1
  have ha1 := size_alloc1 w1 (.cells #[.int .i64 n, .slice pc0 L.length qc0] 26)
  have HBc := Lib.hid (heap_alloc_new w1 (.cells #[.int .i64 n, .slice pc0 L.length qc0] 26))
  clear hb1 hd1
  obtain ⟨bc0, bc1⟩ := blk_cells2 HBc.out
  have bcl := lt_of_block HBc.out
  have hln : L.length ≤ 61 := hci.2.1
  have n0 : -9223372036854775808 ≤ n := by have := hci.1; omega
  have n1 : n ≤ 9223372036854775807 := by have := hci.1; omega
  have hir : (icL n L).length ≤ 61 := Nat.le_trans (icL_len n L) hln
  have HU1 := Lib.hid (fun h1 h2 => law_undone1 (n := n) (L := L) h1 h2)
  have HU2 := Lib.hid (fun h1 h2 => law_undone2 (n := n) (L := L) h1 h2)
  have Hin := Lib.hid (fun W B v (h : gtE.Sl W B v L) => iinvC B n v L W h (by omega) n0 n1)
  have Hsp := Lib.hid (fun W B v (h : gtE.Sl W B v L) => sinvC B n v L W h (by omega))
  have Hiv := Lib.hid (fun W B v (h : gtE.Sl W B v L) => ivalidC B n v L W h (by omega) n0 n1)
  have Hsv := Lib.hid (fun W B v (h : gtE.Sl W B v L) => svalidC B n v L W h (by omega))
  generalize icL n L = R at *
  generalize icN n L = m at *
  have Hse := Lib.hid (fun W B C v u (h1 : gtE.Sl W B v R) (h2 : gtE.Sl W C u R) => sequalC B C m m v u R R W h1 h2 (by omega) (by omega))
  simp only [decide_true, Bool.and_self] at Hse
  have Hcj := Lib.hid (fun W A C u v (h1 : gtE.Sl W A u L) (h2 : gtE.Sl W C v R) => iconcat A C n m u v L R W h1 h2 (by omega) n0 n1)
  have hJl : (cjL n L m R).length ≤ 122 := by unfold cjL; split <;> simp <;> omega
  have q0 : -9223372036854775808 ≤ cjN n L m R := by unfold cjN; split <;> omega
  have q1 : cjN n L m R ≤ 9223372036854775807 := by unfold cjN; split <;> omega
  generalize cjB n L m R = okj at *
  generalize cjL n L m R = J at *
  generalize cjN n L m R = q at *
  have Hcm := Lib.hid (fun W B v (h : gtE.Sl W B v J) => icirc B q v J W h (by omega) q0 q1)
  have hM1 := (ccM_amps q J).1
  have hM2 := (ccM_amps q J).2
  generalize ccM q J = M at *
  generalize ccB q J = fine at *
  generalize ciB n L = tv at *
  have htt : (tv != tv) = false := by simp
  have Hid1 := Lib.hid (fun W => sident n W)
  clear q0 q1 hJl n0 n1 hci
  go_wp2_with fail
  refine (Hin.out _ _ _ Hc0.out.sl).mono ?_
  rintro e w2 ⟨vd0, rfl, hd2, hb2⟩
  obtain ⟨pd0, qd0, rfl, -, -⟩ := id hd2
  have Hd0 := Lib.hid hd2.upto
  have Hd0 := Lib.hid (Hd0.out.below ((Below.refl _ _).alloc (Nat.le_refl _) (.cells #[.int .i64 m, .slice pd0 R.length qd0] 26)))
  have hy2 := hb2.size
  have hb2 := hb2.alloc hb2.size (.cells #[.int .i64 m, .slice pd0 R.length qd0] 26)
  have Hc0 := Lib.hid (Hc0.out.below hb2)
  have Hb := Lib.hid (below_nx Hb.out hb2)
  have hz2 := hb2.size
  simp only [size_alloc1] at hz2
  have ha2 := size_alloc1 w2 (.cells #[.int .i64 m, .slice pd0 R.length qd0] 26)
  have HBc := Lib.hid (below_blk hb2 (lt_of_block HBc.out) HBc.out)
  have HBd := Lib.hid (heap_alloc_new w2 (.cells #[.int .i64 m, .slice pd0 R.length qd0] 26))
  clear hb2 hd2
  clear bc0 bc1 bcl
  obtain ⟨bc0, bc1⟩ := blk_cells2 HBc.out
  have bcl := lt_of_block HBc.out
  obtain ⟨bd0, bd1⟩ := blk_cells2 HBd.out
  have bdl := lt_of_block HBd.out
  have hS : CB2 (w2.alloc (.cells #[.int .i64 m, .slice pd0 R.length qd0] 26)) w1.heap.size w2.heap.size n m (.slice pc0 L.length qc0) (.slice pd0 R.length qd0) (w2.alloc (.cells #[.int .i64 m, .slice pd0 R.length qd0] 26)) := ⟨bc0, bc1, bd0, bd1, bcl, bdl, Below.refl _ _⟩
  have Hc1 := Lib.hid (show gtE.Sc (w2.alloc (.cells #[.int .i64 m, .slice pd0 R.length qd0] 26)).drew _ _ _ L from Hc0.out)
  have Hd1 := Lib.hid (show gtE.Sc (w2.alloc (.cells #[.int .i64 m, .slice pd0 R.length qd0] 26)).drew _ _ _ R from Hd0.out)
  have HbD := Lib.hid (show Below (w2.alloc (.cells #[.int .i64 m, .slice pd0 R.length qd0] 26)).heap.size (w2.alloc (.cells #[.int .i64 m, .slice pd0 R.length qd0] 26)) (w2.alloc (.cells #[.int .i64 m, .slice pd0 R.length qd0] 26)).drew from (Below.refl _ _).drew)
  go_upto_region 5 with fail
  go_region_held3 (fun w' => w'.cell? ⟨w1.heap.size, 0, none⟩ = some (.int .i64 n) ∧ w'.cell? ⟨w1.heap.size, 1, none⟩ = some (.slice pc0 L.length qc0) ∧ w'.cell? ⟨w2.heap.size, 0, none⟩ = some (.int .i64 m) ∧ w'.cell? ⟨w2.heap.size, 1, none⟩ = some (.slice pd0 R.length qd0) ∧ w1.heap.size < w'.heap.size ∧ w2.heap.size < w'.heap.size ∧ Below (w2.alloc (.cells #[.int .i64 m, .slice pd0 R.length qd0] 26)).heap.size (w2.alloc (.cells #[.int .i64 m, .slice pd0 R.length qd0] 26)) w') (first | (show CB2 _ _ _ _ _ _ _ _; (with_reducible exact hS.drew)) | (show CB2 _ _ _ _ _ _ _ _; (with_reducible refine CB2.below ?_ hbR); first | assumption | exact ⟨by assumption, by assumption, by assumption, by assumption, by assumption, by assumption, by assumption⟩))
    (first
      | (go_at_call 15; (with_reducible refine (Hsp.out _ _ _ Hc1.out.sl).mono ?_); rintro e wR ⟨vR, rfl, hdR, hbR⟩; have Hc1 := Lib.hid (Hc1.out.below hbR); have Hd1 := Lib.hid (Hd1.out.below hbR); have HbD := Lib.hid (below_nx HbD.out hbR); have HdR := Lib.hid hdR; obtain ⟨pR, qR, rfl, -, -⟩ := hdR)
      | (go_at_call 14; (with_reducible refine (Hse.out _ _ _ _ _ Hd1.out.sl HdR.out).mono ?_); rintro e wS ⟨rfl, hbR⟩; have Hc1 := Lib.hid (Hc1.out.below hbR); have HbD := Lib.hid (below_nx HbD.out hbR))
      | (go_at_call 16; (with_reducible refine (Hiv.out _ _ _ Hc1.out.sl).mono ?_); rintro e wT ⟨rfl, hbR⟩; have Hc1 := Lib.hid (Hc1.out.below hbR); have HbD := Lib.hid (below_nx HbD.out hbR))
      | (go_at_call 17; (with_reducible refine (Hsv.out _ _ _ Hc1.out.sl).mono ?_); rintro e w3 ⟨rfl, hbR⟩; have HbD := Lib.hid (below_nx HbD.out hbR)))
  have hb3 := HbD.out
  clear hS Hc1 Hd1 HbD HdR hbR
  have Hc0 := Lib.hid (Hc0.out.below hb3)
  have Hd0 := Lib.hid (Hd0.out.below hb3)
  have Hb := Lib.hid (below_nx Hb.out hb3)
  have hz3 := hb3.size
  simp only [size_alloc1] at hz3
  have HBc := Lib.hid (below_blk hb3 (lt_of_block HBc.out) HBc.out)
  have HBd := Lib.hid (below_blk hb3 (lt_of_block HBd.out) HBd.out)
  clear hb3
  clear bc0 bc1 bcl
  obtain ⟨bc0, bc1⟩ := blk_cells2 HBc.out
  have bcl := lt_of_block HBc.out
  clear bd0 bd1 bdl
  obtain ⟨bd0, bd1⟩ := blk_cells2 HBd.out
  have bdl := lt_of_block HBd.out
  go_wp2_with fail
  refine (Hcj.out _ _ _ _ _ Hc0.out.sl Hd0.out.sl).mono ?_
  rintro e w4 ⟨⟨vj0, rfl, hd4⟩, hb4⟩
  obtain ⟨pj0, qj0, rfl, -, -⟩ := id hd4
  have Hj0 := Lib.hid hd4.upto
  have Hj0 := Lib.hid (Hj0.out.below ((Below.refl _ _).alloc (Nat.le_refl _) (.cells #[.int .i64 q, .slice pj0 J.length qj0] 26)))
  have hy4 := hb4.size
  have hb4 := hb4.alloc hb4.size (.cells #[.int .i64 q, .slice pj0 J.length qj0] 26)
  have Hc0 := Lib.hid (Hc0.out.below hb4)
  have Hd0 := Lib.hid (Hd0.out.below hb4)
  have Hb := Lib.hid (below_nx Hb.out hb4)
  have hz4 := hb4.size
  simp only [size_alloc1] at hz4
  have ha4 := size_alloc1 w4 (.cells #[.int .i64 q, .slice pj0 J.length qj0] 26)
  have HBc := Lib.hid (below_blk hb4 (lt_of_block HBc.out) HBc.out)
  have HBd := Lib.hid (below_blk hb4 (lt_of_block HBd.out) HBd.out)
  have HBj := Lib.hid (heap_alloc_new w4 (.cells #[.int .i64 q, .slice pj0 J.length qj0] 26))
  clear hb4 hd4
  clear bc0 bc1 bcl
  obtain ⟨bc0, bc1⟩ := blk_cells2 HBc.out
  have bcl := lt_of_block HBc.out
  clear bd0 bd1 bdl
  obtain ⟨bd0, bd1⟩ := blk_cells2 HBd.out
  have bdl := lt_of_block HBd.out
  obtain ⟨bj0, bj1⟩ := blk_cells2 HBj.out
  have bjl := lt_of_block HBj.out
  cases okj with
  | false =>
    have hlong : tv = true → ¬ 2 * L.length ≤ 60 := fun h1 h2 => by have := HU1.out h1 h2; cases this
    have Hlong := Lib.hid hlong
    clear hlong htt
    go_wp2_with fail
    refine (Hsv.out _ _ _ Hc0.out.sl).mono ?_
    rintro e w5 ⟨rfl, hb5⟩
    have Hc0 := Lib.hid (Hc0.out.below hb5)
    have Hd0 := Lib.hid (Hd0.out.below hb5)
    have Hj0 := Lib.hid (Hj0.out.below hb5)
    have Hb := Lib.hid (below_nx Hb.out hb5)
    have hz5 := hb5.size
    simp only [size_alloc1] at hz5
    have HBc := Lib.hid (below_blk hb5 (lt_of_block HBc.out) HBc.out)
    have HBd := Lib.hid (below_blk hb5 (lt_of_block HBd.out) HBd.out)
    have HBj := Lib.hid (below_blk hb5 (lt_of_block HBj.out) HBj.out)
    clear hb5
    clear bc0 bc1 bcl
    obtain ⟨bc0, bc1⟩ := blk_cells2 HBc.out
    have bcl := lt_of_block HBc.out
    clear bd0 bd1 bdl
    obtain ⟨bd0, bd1⟩ := blk_cells2 HBd.out
    have bdl := lt_of_block HBd.out
    clear bj0 bj1 bjl
    obtain ⟨bj0, bj1⟩ := blk_cells2 HBj.out
    have bjl := lt_of_block HBj.out
    cases tv with
    | false =>
      go_wp2_with fail
      go_ret
      exact ⟨rfl, Hb.out⟩
    | true =>
      have h60 : ¬ 2 * L.length ≤ 60 := Hlong.out (by trivial)
      have h61 : (60 : Int) < 2 * (L.length : Int) := by omega
      have hd61 : decide ((60 : Int) < 2 * (L.length : Int)) = true := decide_eq_true h61
      go_wp2_with fail
      go_ret
      exact ⟨rfl, Hb.out⟩
  | true =>
    go_wp2_with fail
    refine (Hcm.out _ _ _ Hj0.out.sl).mono ?_
    rintro e w5 ⟨⟨vm, rfl, hd5⟩, hb5⟩
    have Hm0 := Lib.hid hd5
    have Hc0 := Lib.hid (Hc0.out.below hb5)
    have Hd0 := Lib.hid (Hd0.out.below hb5)
    have Hj0 := Lib.hid (Hj0.out.below hb5)
    have Hb := Lib.hid (below_nx Hb.out hb5)
    have hz5 := hb5.size
    simp only [size_alloc1] at hz5
    have HBc := Lib.hid (below_blk hb5 (lt_of_block HBc.out) HBc.out)
    have HBd := Lib.hid (below_blk hb5 (lt_of_block HBd.out) HBd.out)
    have HBj := Lib.hid (below_blk hb5 (lt_of_block HBj.out) HBj.out)
    clear hb5 hd5
    clear bc0 bc1 bcl
    obtain ⟨bc0, bc1⟩ := blk_cells2 HBc.out
    have bcl := lt_of_block HBc.out
    clear bd0 bd1 bdl
    obtain ⟨bd0, bd1⟩ := blk_cells2 HBd.out
    have bdl := lt_of_block HBd.out
    clear bj0 bj1 bjl
    obtain ⟨bj0, bj1⟩ := blk_cells2 HBj.out
    have bjl := lt_of_block HBj.out
    cases fine with
    | false =>
      go_wp2_with fail
      go_ret
      exact ⟨rfl, Hb.out⟩
    | true =>
      have e := HU2.out (by trivial) (by trivial)
      have HidM := Hid1
      rw [← e] at HidM
      have HeqM := Lib.hid (fun W A B C D v u (h1 : DSM W A B v M) (h2 : DSM W C D u M) => sequalMt A B C D v u M M W h1 h2 hM1 hM1 hM2 hM2)
      simp only [decide_true] at HeqM
      clear e Hid1
      go_wp2_with fail
      refine (HidM.out _).mono ?_
      rintro e w6 ⟨vi, rfl, hd6, hb6⟩
      have Hi0 := Lib.hid hd6
      have Hc0 := Lib.hid (Hc0.out.below hb6)
      have Hd0 := Lib.hid (Hd0.out.below hb6)
      have Hj0 := Lib.hid (Hj0.out.below hb6)
      have Hm0 := Lib.hid (Hm0.out.below hb6)
      have Hb := Lib.hid (below_nx Hb.out hb6)
      have hz6 := hb6.size
      have HBc := Lib.hid (below_blk hb6 (lt_of_block HBc.out) HBc.out)
      have HBd := Lib.hid (below_blk hb6 (lt_of_block HBd.out) HBd.out)
      have HBj := Lib.hid (below_blk hb6 (lt_of_block HBj.out) HBj.out)
      clear hb6 hd6
      clear bc0 bc1 bcl
      obtain ⟨bc0, bc1⟩ := blk_cells2 HBc.out
      have bcl := lt_of_block HBc.out
      clear bd0 bd1 bdl
      obtain ⟨bd0, bd1⟩ := blk_cells2 HBd.out
      have bdl := lt_of_block HBd.out
      clear bj0 bj1 bjl
      obtain ⟨bj0, bj1⟩ := blk_cells2 HBj.out
      have bjl := lt_of_block HBj.out
      go_wp2_with fail
      refine (HeqM.out _ _ _ _ _ _ _ Hm0.out Hi0.out).mono ?_
      rintro e w7 ⟨rfl, hb7⟩
      have Hc0 := Lib.hid (Hc0.out.below hb7)
      have Hd0 := Lib.hid (Hd0.out.below hb7)
      have Hj0 := Lib.hid (Hj0.out.below hb7)
      have Hm0 := Lib.hid (Hm0.out.below hb7)
      have Hi0 := Lib.hid (Hi0.out.below hb7)
      have Hb := Lib.hid (below_nx Hb.out hb7)
      have hz7 := hb7.size
      have HBc := Lib.hid (below_blk hb7 (lt_of_block HBc.out) HBc.out)
      have HBd := Lib.hid (below_blk hb7 (lt_of_block HBd.out) HBd.out)
      have HBj := Lib.hid (below_blk hb7 (lt_of_block HBj.out) HBj.out)
      clear hb7
      clear bc0 bc1 bcl
      obtain ⟨bc0, bc1⟩ := blk_cells2 HBc.out
      have bcl := lt_of_block HBc.out
      clear bd0 bd1 bdl
      obtain ⟨bd0, bd1⟩ := blk_cells2 HBd.out
      have bdl := lt_of_block HBd.out
      clear bj0 bj1 bjl
      obtain ⟨bj0, bj1⟩ := blk_cells2 HBj.out
      have bjl := lt_of_block HBj.out
      go_wp2_with fail
      go_ret
      exact ⟨rfl, Hb.out⟩
set_option maxRecDepth 100000 in
set_option maxHeartbeats 400000 in
theorem walk (a0 : Option Addr) (len cap : Nat) (w : World) (hm : len ≤ maxLen) (hlc : len ≤ cap) (hc : len ≤ 1048576 → CodeAt w w.heap.size a0 len) :
    Calls Try.prog 3 #[.slice a0 len cap] w fun e w' => e = .returned (.bool true) ∧ Below w.heap.size w w' := by
  by_cases hs : len ≤ 1048576
  · exact core a0 len cap hs hlc w (hc hs)
  · unfold maxLen at hm
    clear hc
    go_enter Try.func3, Try.ntmps3
    go_wp2_with (go_at_call 11; go_in)
    go_ret
    exact ⟨rfl, Below.refl _ _⟩
open Go.ChangeMaps (open_string shut_string)
theorem laidOut : laidOutB Try.prog = true := by kernel_rfl
theorem own : ownKnob Try.prog.godebug = none := by kernel_rfl
set_option maxRecDepth 100000 in
/-- What the walk gives, for every argument. -/
theorem contract (H : Type) (enc : TypeId × Value → H) (W : World) (base : Nat) (args : Array Value) (ds gs : List (DataW H)) (before : List MemPlace)
    (hval : ∀ (j : Nat) t v, Try.f3.params[j]? = some t → args[j]? = some v → Value.okWide Try.prog W .any base t v)
    (hW : DataW.Whole enc Try.prog Try.f3.params.toList Rows.fnUndoneSpec.vars false W args.toList ds gs before) :
    Calls Try.prog 3 args W fun e W' => ∃ v, e = .returned v ∧ Rows.fnUndoneSpec.post enc Try.prog Try.f3 false true false false W args v W' := by
  have hW' := hW
  obtain ⟨p, q, hA0, hV, rfl, hfz, hnd⟩ := hW
  have hA : DataW.TrodAll enc Try.prog W 0 (fun _ => true) true Try.f3.params.toList args.toList ds p := hA0
  rw [Try.params3] at hA hval
  obtain ⟨v0, vs0, d0, ds0, p0, q0, hargs, rfl, rfl, h0, r0⟩ := trodAll_cons hA
  obtain ⟨rfl, rfl, rfl⟩ := trodAll_nil r0
  obtain rfl : args = #[v0] := by cases args; simp_all
  obtain ⟨rfl, rfl⟩ := trodVars_none hV
  obtain ⟨ca, cl, cc, rfl⟩ := okWide_slice Try.underlying22 (hval 0 22 v0 rfl rfl)
  have k0 := h0
  have lt0 : ∀ x ∈ p0, x.block < W.heap.size := by obtain ⟨m, hm⟩ := k0; exact DataW.trod_lt m _ _ _ hm
  have ch : (cl ≤ 1048576 → CodeAt W W.heap.size ca cl) ∧ cl ≤ maxLen ∧ cl ≤ cc := by
    obtain ⟨fuel, hf⟩ := h0
    rcases open_ints Try.underlying22 Try.underlying5 (by kernel_rfl) hf with ⟨hcs, _⟩ | ⟨x, l, c, zs, hcs, _, hl, hm, hz, _, hcell, hwz⟩
    · simp [Value.cells] at hcs
      obtain ⟨rfl, rfl, rfl⟩ := hcs
      exact ⟨fun _ => ⟨by omega, fun h => absurd h (by omega)⟩, Nat.zero_le _, Nat.le_refl _⟩
    · simp [Value.cells] at hcs
      obtain ⟨rfl, rfl, rfl⟩ := hcs
      have hz2 : zs.length = cc := by simpa using hz
      exact ⟨fun hs => code_of hs (by omega) hcell hwz, by omega, hl⟩
  clear hA0
  simp only [List.append_nil] at hW'
  refine (walk ca cl cc W ch.2.1 ch.2.2 ch.1).mono fun e W' ⟨he, hg⟩ => ?_
  subst he
  exact ⟨_, rfl, _, _, _, [], _, [], hW', trodAll_mk1 (shut_bool Try.underlying4 _), (trodAll_cons_mk (Below.trod laidOut (by kernel_rfl) (of_decide_eq_true (by kernel_rfl)) k0 hg lt0) trodAll_mk0), rfl, hg.frame _, fun h => by cases h⟩
set_option maxRecDepth 100000 in
theorem lifted (os : Os) (started : os.Started) (H : Type) (enc : TypeId × Value → H) :
    ReturnsInHanded {} Try.checked os 3 .any (Rows.fnUndoneSpec.pre6 enc Try.prog Try.f3 Rows.fnUndoneRow.domain false) (Rows.fnUndoneSpec.post enc Try.prog Try.f3 false true false false) := by
  refine returnsInHanded_of_change (C := Try.checked) own started (by kernel_rfl) Try.func3
    (ChangeSpec.witness6 (enc := enc) (C := Try.checked) false ⟨#[], #[.slice none 0 0], []⟩ 8 (by kernel_rfl) (by kernel_rfl) (by kernel_rfl) (by kernel_rfl)) ?_
  intro W base args ds gs before hval hW _ _
  exact contract H enc W base args ds gs before hval hW
theorem closedFacts : joinedFacts Try.pinned.checked.prog 3 Try.f3 Rows.fnUndoneSpec Rows.fnUndoneRow = true := by
  unfold joinedFacts
  rw [init_may, init_facts.2.1, init_facts.2.2]
  kernel_rfl
theorem said : Rows.FnUndoneSaid :=
  OpenClaim.holds_of_wide 3 Try.f3 rfl rfl rfl rfl rfl rfl rfl ⟨rfl, rfl, rfl, rfl, rfl⟩ rfl rfl rfl rfl rfl (by kernel_rfl) Try.func3 closedFacts
    (of_decide_eq_true (by kernel_rfl)) (by unfold Func.isWrapper; first | (rw [if_pos (by decide +kernel)]; kernel_rfl) | (rw [if_neg (by decide +kernel)]; exact ⟨rfl, rfl⟩))
    (fun os started H enc _ => lifted os started H enc)
end Go.Proofs.Ytmpafidkpangeaa.fnUndone
