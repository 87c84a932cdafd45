/- The law FnJoined: the matrix of a concatenation is the product of the matrices, at every code. No condition. -/
import Derived.Test.YtmpafidkpangeaaInit
import Derived.Test.YtmpafidkpangeaaBaseB23
import Derived.Test.YtmpafidkpangeaaBaseB25
import Derived.Test.YtmpafidkpangeaaBaseB18
import Derived.Lib.SmallJoins
import Derived.WalkKit
import Derived.ProofKit
import Derived.OpenShut
import Derived.Deep.DeepHandedRow
import Derived.Lib.LaidTab
import Derived.LaidMore
import Derived.LaidHandle
import Derived.Lay
import Derived.Stop.LaidErr
namespace Go.Proofs.Ytmpafidkpangeaa.fnJoined
open Go.ChangeShapes Go.WideShapes Go.ChangeAt Go.RowKit Go.Lib
attribute [local irreducible] World.cell?
set_option maxRecDepth 100000 in
set_option maxHeartbeats 12800000 in
theorem core (a0 : Option Addr) (len cap : Nat) (hs : len ≤ 1048576) (_ : len ≤ cap) (w : World) (hcode : CodeAt w w.heap.size a0 len) :
    Calls Try.prog 4 #[.slice a0 len cap] w fun e w' => e = .returned (.bool true) ∧ Below w.heap.size w w' := by
  have Hc := Lib.hid hcode
  have Hb := Lib.hid (Below.refl w.heap.size w)
  clear hcode
  go_enter Try.func4, Try.ntmps4
  go_wp2_with (go_at_call 11; go_in)
  refine (drawConcatCircuits a0 len cap _ Hc.out).mono ?_
  rintro e w1 ⟨⟨n, m, u, v, L, M, rfl, hci, hcm, hu, hv⟩, hb1⟩
  obtain ⟨pa0, qa0, rfl, -, -⟩ := id hu
  obtain ⟨pb0, qb0, rfl, -, -⟩ := id hv
  have hln : L.length ≤ 61 := hci.2.1
  have hlm : M.length ≤ 61 := hcm.2.1
  have n0 : -9223372036854775808 ≤ n := by have := hci.1; omega
  have n1 : n ≤ 9223372036854775807 := by have := hci.1; omega
  have m0 : -9223372036854775808 ≤ m := by have := hcm.1; omega
  have m1 : m ≤ 9223372036854775807 := by have := hcm.1; omega
  have HU := Lib.hid (fun h h1 h2 h3 h4 => law_joined (n := n) (m := m) (L := L) (M := M) h h1 h2 h3 h4)
  have Hij := Lib.hid (fun W A C u v (h1 : gtE.Sl W A u L) (h2 : gtE.Sl W C v M) => iconcat A C n m u v L M W h1 h2 (by omega) n0 n1)
  have Hsj := Lib.hid (fun W A C u v (h1 : gtE.Sl W A u L) (h2 : gtE.Sl W C v M) => sconcat A C n m u v L M W h1 h2 (by omega))
  have hJl : (cjL n L m M).length ≤ 122 := by unfold cjL; split <;> simp <;> omega
  have q0 : -9223372036854775808 ≤ cjN n L m M := by unfold cjN; split <;> omega
  have q1 : cjN n L m M ≤ 9223372036854775807 := by unfold cjN; split <;> omega
  generalize cjB n L m M = okj at *
  generalize cjL n L m M = J at *
  generalize cjN n L m M = q at *
  have Hca := Lib.hid (fun W B v (h : gtE.Sl W B v L) => icirc B n v L W h (by omega) n0 n1)
  have Hcb := Lib.hid (fun W B v (h : gtE.Sl W B v M) => icirc B m v M W h (by omega) m0 m1)
  have Hcc := Lib.hid (fun W B v (h : gtE.Sl W B v J) => icirc B q v J W h (by omega) q0 q1)
  obtain ⟨hA1, hA2⟩ := ccM_amps n L
  obtain ⟨hB1, hB2⟩ := ccM_amps m M
  obtain ⟨hC1, hC2⟩ := ccM_amps q J
  have hAe := ccM_eb n L
  have hBe := ccM_eb m M
  generalize ccM n L = MA at *
  generalize ccM m M = MB at *
  generalize ccM q J = MC at *
  generalize ccB n L = ta at *
  generalize ccB m M = tb at *
  generalize ccB q J = tc at *
  obtain ⟨p16, p256⟩ := mulM_amps MB MA
  have Hmm := Lib.hid (fun W P Q R S v u (h1 : DSM W P Q v MB) (h2 : DSM W R S u MA) => imulM P Q R S v u MB MA W h1 h2 hBe hAe hB1 hA1 hB2 hA2)
  generalize mulM MB MA = MP at *
  generalize mulMB MB MA = tp at *
  have htt : (okj != okj) = false := by simp
  have hte : (okj == okj) = true := by simp
  clear q0 q1 n0 n1 m0 m1 hci hcm hAe hBe
  have hy1 := hb1.size
  have HBa := Lib.hid (alloc_blk (.cells #[.int .i64 m, .slice pb0 M.length qb0] 26) (heap_alloc_new w1 (.cells #[.int .i64 n, .slice pa0 L.length qa0] 26)))
  have HBb := Lib.hid (show ((w1.alloc (.cells #[.int .i64 n, .slice pa0 L.length qa0] 26)).alloc (.cells #[.int .i64 m, .slice pb0 M.length qb0] 26)).heap[w1.heap.size + 1]? = some (.cells #[.int .i64 m, .slice pb0 M.length qb0] 26 (0, 0)) by
    simpa using heap_alloc_new (w1.alloc (.cells #[.int .i64 n, .slice pa0 L.length qa0] 26)) (.cells #[.int .i64 m, .slice pb0 M.length qb0] 26))
  have hb2 : Below w1.heap.size w1 ((w1.alloc (.cells #[.int .i64 n, .slice pa0 L.length qa0] 26)).alloc (.cells #[.int .i64 m, .slice pb0 M.length qb0] 26)) := by go_grown
  have Ha0 := Lib.hid ((hu.below hb2).upto)
  have Hb0 := Lib.hid ((hv.below hb2).upto)
  have Hb := Lib.hid (below_nx (below_nx Hb.out hb1) hb2)
  clear hu hv hb1 hb2
  obtain ⟨ba0, ba1⟩ := blk_cells2 HBa.out
  have bal := lt_of_block HBa.out
  obtain ⟨bb0, bb1⟩ := blk_cells2 HBb.out
  have bbl := lt_of_block HBb.out
  go_wp2_with fail
  refine (Hij.out _ _ _ _ _ Ha0.out.sl Hb0.out.sl).mono ?_
  rintro e w2 ⟨⟨vj0, rfl, hd2⟩, hb2⟩
  obtain ⟨pj0, qj0, rfl, -, -⟩ := id hd2
  have Hj0 := Lib.hid hd2.upto
  have Hj0 := Lib.hid (Hj0.out.below ((Below.refl _ _).alloc (Nat.le_refl _) (.cells #[.int .i64 q, .slice pj0 J.length qj0] 26)))
  have hy2 := hb2.size
  have hb2 := hb2.alloc hb2.size (.cells #[.int .i64 q, .slice pj0 J.length qj0] 26)
  have Ha0 := Lib.hid (Ha0.out.below hb2)
  have Hb0 := Lib.hid (Hb0.out.below hb2)
  have Hb := Lib.hid (below_nx Hb.out hb2)
  have hz2 := hb2.size
  simp only [size_alloc1] at hz2
  have ha2 := size_alloc1 w2 (.cells #[.int .i64 q, .slice pj0 J.length qj0] 26)
  have HBa := Lib.hid (below_blk hb2 (lt_of_block HBa.out) HBa.out)
  have HBb := Lib.hid (below_blk hb2 (lt_of_block HBb.out) HBb.out)
  have HBj := Lib.hid (heap_alloc_new w2 (.cells #[.int .i64 q, .slice pj0 J.length qj0] 26))
  clear hb2 hd2
  clear ba0 ba1 bal
  obtain ⟨ba0, ba1⟩ := blk_cells2 HBa.out
  have bal := lt_of_block HBa.out
  clear bb0 bb1 bbl
  obtain ⟨bb0, bb1⟩ := blk_cells2 HBb.out
  have bbl := lt_of_block HBb.out
  obtain ⟨bj0, bj1⟩ := blk_cells2 HBj.out
  have bjl := lt_of_block HBj.out
  go_wp2_with fail
  refine (Hsj.out _ _ _ _ _ Ha0.out.sl Hb0.out.sl).mono ?_
  rintro e w3 ⟨⟨vk0, rfl, hd3⟩, hb3⟩
  obtain ⟨pk0, qk0, rfl, -, -⟩ := id hd3
  have Hk0 := Lib.hid hd3.upto
  have Hk0 := Lib.hid (Hk0.out.below ((Below.refl _ _).alloc (Nat.le_refl _) (.cells #[.int .i64 q, .slice pk0 J.length qk0] 26)))
  have hy3 := hb3.size
  have hb3 := hb3.alloc hb3.size (.cells #[.int .i64 q, .slice pk0 J.length qk0] 26)
  have Ha0 := Lib.hid (Ha0.out.below hb3)
  have Hb0 := Lib.hid (Hb0.out.below hb3)
  have Hj0 := Lib.hid (Hj0.out.below hb3)
  have Hb := Lib.hid (below_nx Hb.out hb3)
  have hz3 := hb3.size
  simp only [size_alloc1] at hz3
  have ha3 := size_alloc1 w3 (.cells #[.int .i64 q, .slice pk0 J.length qk0] 26)
  have HBa := Lib.hid (below_blk hb3 (lt_of_block HBa.out) HBa.out)
  have HBb := Lib.hid (below_blk hb3 (lt_of_block HBb.out) HBb.out)
  have HBj := Lib.hid (below_blk hb3 (lt_of_block HBj.out) HBj.out)
  have HBk := Lib.hid (heap_alloc_new w3 (.cells #[.int .i64 q, .slice pk0 J.length qk0] 26))
  clear hb3 hd3
  clear ba0 ba1 bal
  obtain ⟨ba0, ba1⟩ := blk_cells2 HBa.out
  have bal := lt_of_block HBa.out
  clear bb0 bb1 bbl
  obtain ⟨bb0, bb1⟩ := blk_cells2 HBb.out
  have bbl := lt_of_block HBb.out
  clear bj0 bj1 bjl
  obtain ⟨bj0, bj1⟩ := blk_cells2 HBj.out
  have bjl := lt_of_block HBj.out
  obtain ⟨bk0, bk1⟩ := blk_cells2 HBk.out
  have bkl := lt_of_block HBk.out
  cases okj with
  | false =>
    go_wp2_with fail
    go_ret
    exact ⟨rfl, Hb.out⟩
  | true =>
    go_wp2_with fail
    refine (Hca.out _ _ _ Ha0.out.sl).mono ?_
    rintro e w4 ⟨⟨vx, rfl, hd4⟩, hb4⟩
    have Hx0 := Lib.hid hd4
    have Ha0 := Lib.hid (Ha0.out.below hb4)
    have Hb0 := Lib.hid (Hb0.out.below hb4)
    have Hj0 := Lib.hid (Hj0.out.below hb4)
    have Hk0 := Lib.hid (Hk0.out.below hb4)
    have Hb := Lib.hid (below_nx Hb.out hb4)
    have hz4 := hb4.size
    simp only [size_alloc1] at hz4
    have HBa := Lib.hid (below_blk hb4 (lt_of_block HBa.out) HBa.out)
    have HBb := Lib.hid (below_blk hb4 (lt_of_block HBb.out) HBb.out)
    have HBj := Lib.hid (below_blk hb4 (lt_of_block HBj.out) HBj.out)
    have HBk := Lib.hid (below_blk hb4 (lt_of_block HBk.out) HBk.out)
    clear hb4 hd4
    clear ba0 ba1 bal
    obtain ⟨ba0, ba1⟩ := blk_cells2 HBa.out
    have bal := lt_of_block HBa.out
    clear bb0 bb1 bbl
    obtain ⟨bb0, bb1⟩ := blk_cells2 HBb.out
    have bbl := lt_of_block HBb.out
    clear bj0 bj1 bjl
    obtain ⟨bj0, bj1⟩ := blk_cells2 HBj.out
    have bjl := lt_of_block HBj.out
    clear bk0 bk1 bkl
    obtain ⟨bk0, bk1⟩ := blk_cells2 HBk.out
    have bkl := lt_of_block HBk.out
    go_wp2_with fail
    refine (Hcb.out _ _ _ Hb0.out.sl).mono ?_
    rintro e w5 ⟨⟨vy, rfl, hd5⟩, hb5⟩
    have Hy0 := Lib.hid hd5
    have Ha0 := Lib.hid (Ha0.out.below hb5)
    have Hb0 := Lib.hid (Hb0.out.below hb5)
    have Hj0 := Lib.hid (Hj0.out.below hb5)
    have Hk0 := Lib.hid (Hk0.out.below hb5)
    have Hx0 := Lib.hid (Hx0.out.below hb5)
    have Hb := Lib.hid (below_nx Hb.out hb5)
    have hz5 := hb5.size
    have HBa := Lib.hid (below_blk hb5 (lt_of_block HBa.out) HBa.out)
    have HBb := Lib.hid (below_blk hb5 (lt_of_block HBb.out) HBb.out)
    have HBj := Lib.hid (below_blk hb5 (lt_of_block HBj.out) HBj.out)
    have HBk := Lib.hid (below_blk hb5 (lt_of_block HBk.out) HBk.out)
    clear hb5 hd5
    clear ba0 ba1 bal
    obtain ⟨ba0, ba1⟩ := blk_cells2 HBa.out
    have bal := lt_of_block HBa.out
    clear bb0 bb1 bbl
    obtain ⟨bb0, bb1⟩ := blk_cells2 HBb.out
    have bbl := lt_of_block HBb.out
    clear bj0 bj1 bjl
    obtain ⟨bj0, bj1⟩ := blk_cells2 HBj.out
    have bjl := lt_of_block HBj.out
    clear bk0 bk1 bkl
    obtain ⟨bk0, bk1⟩ := blk_cells2 HBk.out
    have bkl := lt_of_block HBk.out
    go_wp2_with fail
    refine (Hcc.out _ _ _ Hj0.out.sl).mono ?_
    rintro e w6 ⟨⟨vz, rfl, hd6⟩, hb6⟩
    have Hz0 := Lib.hid hd6
    have Ha0 := Lib.hid (Ha0.out.below hb6)
    have Hb0 := Lib.hid (Hb0.out.below hb6)
    have Hj0 := Lib.hid (Hj0.out.below hb6)
    have Hk0 := Lib.hid (Hk0.out.below hb6)
    have Hx0 := Lib.hid (Hx0.out.below hb6)
    have Hy0 := Lib.hid (Hy0.out.below hb6)
    have Hb := Lib.hid (below_nx Hb.out hb6)
    have hz6 := hb6.size
    have HBa := Lib.hid (below_blk hb6 (lt_of_block HBa.out) HBa.out)
    have HBb := Lib.hid (below_blk hb6 (lt_of_block HBb.out) HBb.out)
    have HBj := Lib.hid (below_blk hb6 (lt_of_block HBj.out) HBj.out)
    have HBk := Lib.hid (below_blk hb6 (lt_of_block HBk.out) HBk.out)
    clear hb6 hd6
    clear ba0 ba1 bal
    obtain ⟨ba0, ba1⟩ := blk_cells2 HBa.out
    have bal := lt_of_block HBa.out
    clear bb0 bb1 bbl
    obtain ⟨bb0, bb1⟩ := blk_cells2 HBb.out
    have bbl := lt_of_block HBb.out
    clear bj0 bj1 bjl
    obtain ⟨bj0, bj1⟩ := blk_cells2 HBj.out
    have bjl := lt_of_block HBj.out
    clear bk0 bk1 bkl
    obtain ⟨bk0, bk1⟩ := blk_cells2 HBk.out
    have bkl := lt_of_block HBk.out
    go_wp2_with fail
    refine (Hmm.out _ _ _ _ _ _ _ Hy0.out Hx0.out).mono ?_
    rintro e w7 ⟨⟨vp, rfl, hd7⟩, hb7⟩
    have Hp0 := Lib.hid hd7
    have Ha0 := Lib.hid (Ha0.out.below hb7)
    have Hb0 := Lib.hid (Hb0.out.below hb7)
    have Hj0 := Lib.hid (Hj0.out.below hb7)
    have Hk0 := Lib.hid (Hk0.out.below hb7)
    have Hx0 := Lib.hid (Hx0.out.below hb7)
    have Hy0 := Lib.hid (Hy0.out.below hb7)
    have Hz0 := Lib.hid (Hz0.out.below hb7)
    have Hb := Lib.hid (below_nx Hb.out hb7)
    have hz7 := hb7.size
    have HBa := Lib.hid (below_blk hb7 (lt_of_block HBa.out) HBa.out)
    have HBb := Lib.hid (below_blk hb7 (lt_of_block HBb.out) HBb.out)
    have HBj := Lib.hid (below_blk hb7 (lt_of_block HBj.out) HBj.out)
    have HBk := Lib.hid (below_blk hb7 (lt_of_block HBk.out) HBk.out)
    clear hb7 hd7
    clear ba0 ba1 bal
    obtain ⟨ba0, ba1⟩ := blk_cells2 HBa.out
    have bal := lt_of_block HBa.out
    clear bb0 bb1 bbl
    obtain ⟨bb0, bb1⟩ := blk_cells2 HBb.out
    have bbl := lt_of_block HBb.out
    clear bj0 bj1 bjl
    obtain ⟨bj0, bj1⟩ := blk_cells2 HBj.out
    have bjl := lt_of_block HBj.out
    clear bk0 bk1 bkl
    obtain ⟨bk0, bk1⟩ := blk_cells2 HBk.out
    have bkl := lt_of_block HBk.out
    by_cases hall : ta = true ∧ tb = true ∧ tc = true ∧ tp = true
    · obtain ⟨rfl, rfl, rfl, rfl⟩ := hall
      obtain rfl : MP = MC := HU.out (by trivial) (by trivial) (by trivial) (by trivial) (by trivial)
      have HeqM := Lib.hid (fun W A B C D v u (h1 : DSM W A B v MP) (h2 : DSM W C D u MP) => sequalMt A B C D v u MP MP W h1 h2 (by omega) (by omega) (by omega) (by omega))
      simp only [decide_true] at HeqM
      go_wp2_with fail
      refine (HeqM.out _ _ _ _ _ _ _ Hp0.out Hz0.out).mono ?_
      rintro e w8 ⟨rfl, hb8⟩
      have Ha0 := Lib.hid (Ha0.out.below hb8)
      have Hb0 := Lib.hid (Hb0.out.below hb8)
      have Hj0 := Lib.hid (Hj0.out.below hb8)
      have Hk0 := Lib.hid (Hk0.out.below hb8)
      have Hx0 := Lib.hid (Hx0.out.below hb8)
      have Hy0 := Lib.hid (Hy0.out.below hb8)
      have Hz0 := Lib.hid (Hz0.out.below hb8)
      have Hp0 := Lib.hid (Hp0.out.below hb8)
      have Hb := Lib.hid (below_nx Hb.out hb8)
      have hz8 := hb8.size
      have HBa := Lib.hid (below_blk hb8 (lt_of_block HBa.out) HBa.out)
      have HBb := Lib.hid (below_blk hb8 (lt_of_block HBb.out) HBb.out)
      have HBj := Lib.hid (below_blk hb8 (lt_of_block HBj.out) HBj.out)
      have HBk := Lib.hid (below_blk hb8 (lt_of_block HBk.out) HBk.out)
      clear hb8
      clear ba0 ba1 bal
      obtain ⟨ba0, ba1⟩ := blk_cells2 HBa.out
      have bal := lt_of_block HBa.out
      clear bb0 bb1 bbl
      obtain ⟨bb0, bb1⟩ := blk_cells2 HBb.out
      have bbl := lt_of_block HBb.out
      clear bj0 bj1 bjl
      obtain ⟨bj0, bj1⟩ := blk_cells2 HBj.out
      have bjl := lt_of_block HBj.out
      clear bk0 bk1 bkl
      obtain ⟨bk0, bk1⟩ := blk_cells2 HBk.out
      have bkl := lt_of_block HBk.out
      go_wp2_with fail
      go_ret
      exact ⟨rfl, Hb.out⟩
    · have HbZ := Hb
      cases ta with
      | false =>
        go_wp2_with fail
        go_ret
        exact ⟨rfl, HbZ.out⟩
      | true =>
        cases tb with
        | false =>
          go_wp2_with fail
          go_ret
          exact ⟨rfl, HbZ.out⟩
        | true =>
          cases tc with
          | false =>
            go_wp2_with fail
            go_ret
            exact ⟨rfl, HbZ.out⟩
          | true =>
            cases tp with
            | false =>
              go_wp2_with fail
              go_ret
              exact ⟨rfl, HbZ.out⟩
            | true => exact absurd ⟨rfl, rfl, rfl, rfl⟩ hall
set_option maxRecDepth 100000 in
set_option maxHeartbeats 400000 in
theorem walk (a0 : Option Addr) (len cap : Nat) (w : World) (hm : len ≤ maxLen) (hlc : len ≤ cap) (hc : len ≤ 1048576 → CodeAt w w.heap.size a0 len) :
    Calls Try.prog 4 #[.slice a0 len cap] w fun e w' => e = .returned (.bool true) ∧ Below w.heap.size w w' := by
  by_cases hs : len ≤ 1048576
  · exact core a0 len cap hs hlc w (hc hs)
  · unfold maxLen at hm
    clear hc
    go_enter Try.func4, Try.ntmps4
    go_wp2_with (go_at_call 11; go_in)
    go_ret
    exact ⟨rfl, Below.refl _ _⟩
open Go.ChangeMaps (open_string shut_string)
theorem laidOut : laidOutB Try.prog = true := by kernel_rfl
theorem own : ownKnob Try.prog.godebug = none := by kernel_rfl
set_option maxRecDepth 100000 in
/-- What the walk gives, for every argument. -/
theorem contract (H : Type) (enc : TypeId × Value → H) (W : World) (base : Nat) (args : Array Value) (ds gs : List (DataW H)) (before : List MemPlace)
    (hval : ∀ (j : Nat) t v, Try.f4.params[j]? = some t → args[j]? = some v → Value.okWide Try.prog W .any base t v)
    (hW : DataW.Whole enc Try.prog Try.f4.params.toList Rows.fnJoinedSpec.vars false W args.toList ds gs before) :
    Calls Try.prog 4 args W fun e W' => ∃ v, e = .returned v ∧ Rows.fnJoinedSpec.post enc Try.prog Try.f4 false true false false W args v W' := by
  have hW' := hW
  obtain ⟨p, q, hA0, hV, rfl, hfz, hnd⟩ := hW
  have hA : DataW.TrodAll enc Try.prog W 0 (fun _ => true) true Try.f4.params.toList args.toList ds p := hA0
  rw [Try.params4] at hA hval
  obtain ⟨v0, vs0, d0, ds0, p0, q0, hargs, rfl, rfl, h0, r0⟩ := trodAll_cons hA
  obtain ⟨rfl, rfl, rfl⟩ := trodAll_nil r0
  obtain rfl : args = #[v0] := by cases args; simp_all
  obtain ⟨rfl, rfl⟩ := trodVars_none hV
  obtain ⟨ca, cl, cc, rfl⟩ := okWide_slice Try.underlying22 (hval 0 22 v0 rfl rfl)
  have k0 := h0
  have lt0 : ∀ x ∈ p0, x.block < W.heap.size := by obtain ⟨m, hm⟩ := k0; exact DataW.trod_lt m _ _ _ hm
  have ch : (cl ≤ 1048576 → CodeAt W W.heap.size ca cl) ∧ cl ≤ maxLen ∧ cl ≤ cc := by
    obtain ⟨fuel, hf⟩ := h0
    rcases open_ints Try.underlying22 Try.underlying5 (by kernel_rfl) hf with ⟨hcs, _⟩ | ⟨x, l, c, zs, hcs, _, hl, hm, hz, _, hcell, hwz⟩
    · simp [Value.cells] at hcs
      obtain ⟨rfl, rfl, rfl⟩ := hcs
      exact ⟨fun _ => ⟨by omega, fun h => absurd h (by omega)⟩, Nat.zero_le _, Nat.le_refl _⟩
    · simp [Value.cells] at hcs
      obtain ⟨rfl, rfl, rfl⟩ := hcs
      have hz2 : zs.length = cc := by simpa using hz
      exact ⟨fun hs => code_of hs (by omega) hcell hwz, by omega, hl⟩
  clear hA0
  simp only [List.append_nil] at hW'
  refine (walk ca cl cc W ch.2.1 ch.2.2 ch.1).mono fun e W' ⟨he, hg⟩ => ?_
  subst he
  exact ⟨_, rfl, _, _, _, [], _, [], hW', trodAll_mk1 (shut_bool Try.underlying4 _), (trodAll_cons_mk (Below.trod laidOut (by kernel_rfl) (of_decide_eq_true (by kernel_rfl)) k0 hg lt0) trodAll_mk0), rfl, hg.frame _, fun h => by cases h⟩
set_option maxRecDepth 100000 in
theorem lifted (os : Os) (started : os.Started) (H : Type) (enc : TypeId × Value → H) :
    ReturnsInHanded {} Try.checked os 4 .any (Rows.fnJoinedSpec.pre6 enc Try.prog Try.f4 Rows.fnJoinedRow.domain false) (Rows.fnJoinedSpec.post enc Try.prog Try.f4 false true false false) := by
  refine returnsInHanded_of_change (C := Try.checked) own started (by kernel_rfl) Try.func4
    (ChangeSpec.witness6 (enc := enc) (C := Try.checked) false ⟨#[], #[.slice none 0 0], []⟩ 8 (by kernel_rfl) (by kernel_rfl) (by kernel_rfl) (by kernel_rfl)) ?_
  intro W base args ds gs before hval hW _ _
  exact contract H enc W base args ds gs before hval hW
theorem closedFacts : joinedFacts Try.pinned.checked.prog 4 Try.f4 Rows.fnJoinedSpec Rows.fnJoinedRow = true := by
  unfold joinedFacts
  rw [init_may, init_facts.2.1, init_facts.2.2]
  kernel_rfl
theorem said : Rows.FnJoinedSaid :=
  OpenClaim.holds_of_wide 4 Try.f4 rfl rfl rfl rfl rfl rfl rfl ⟨rfl, rfl, rfl, rfl, rfl⟩ rfl rfl rfl rfl rfl (by kernel_rfl) Try.func4 closedFacts
    (of_decide_eq_true (by kernel_rfl)) (by unfold Func.isWrapper; first | (rw [if_pos (by decide +kernel)]; kernel_rfl) | (rw [if_neg (by decide +kernel)]; exact ⟨rfl, rfl⟩))
    (fun os started H enc _ => lifted os started H enc)
end Go.Proofs.Ytmpafidkpangeaa.fnJoined
