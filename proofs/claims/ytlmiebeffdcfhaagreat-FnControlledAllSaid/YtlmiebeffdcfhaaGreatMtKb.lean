/- The program's IsValidMatrix, EqualMatrix, areMatricesOfOneSize. -/
import Derived.Test.YtlmiebeffdcfhaaGreatBaseB15
import Derived.Test.YtlmiebeffdcfhaaGreatDsKa
namespace Go.Proofs.YtlmiebeffdcfhaaGreat
open Go.RowKit
attribute [local irreducible] World.cell?
set_option maxRecDepth 100000 in
set_option maxHeartbeats 1600000 in
theorem ivalidMt (B C : Nat) (v : Value) (M : List (List Dw)) (w : World) (hv : DSM w B C v M) (he : EbM M) (hn : M.length ≤ 1048576) (hm : amps M ≤ 1048576) :
    Calls Tryz.prog 38 #[v] w fun e w' => e = .returned (.bool (mtB M)) ∧ Below w.heap.size w w' := by
  obtain ⟨a, cap, rfl, hcap, hr⟩ := hv
  have Hr := Lib.hid hr
  have HeM := Lib.hid he
  clear hr he
  obtain ⟨R, hR⟩ : ∃ R, R = mtB M := ⟨_, rfl⟩
  rw [← hR]
  have HR := Lib.hid hR
  clear hR
  go_enter Tryz.func38, Tryz.ntmps38
  go_wp2_with fail
  go_loopg [7] M.length (fun k i wr => ∃ j : Nat, k = M.length - j ∧ j ≤ M.length ∧ i = .int .i64 j ∧ Hid ((M.take j).all (fun r => decide (r.length = M.length) && stB r) = true) ∧ Hid (Below w.heap.size w wr))
  case atStart => exact ⟨0, rfl, Nat.zero_le _, rfl, rfl, Below.refl _ _⟩
  case round =>
    obtain ⟨j, rfl, hj, rfl, Hall, Hb⟩ := hrel
    by_cases hlt : j < M.length
    · obtain ⟨g, rfl, _, _, hrow⟩ := Hr.out (by omega)
      obtain ⟨r, hr⟩ : ∃ r, M[j]? = some r := ⟨M[j], List.getElem?_eq_getElem hlt⟩
      have r1 := hrow.block (Hb.out.block _ hrow.lt) fun k _ _ hk => Hb.out.block k hk
      obtain ⟨p, pc, c0, hd1⟩ := r1.cell hr
      have Hd1 := Lib.hid hd1.dsl
      have Hat := Lib.hid (all_take (p := fun r => decide (r.length = M.length) && stB r) hr Hall.out)
      have Hno := Lib.hid (fun h => all_no (p := fun r => decide (r.length = M.length) && stB r) hr h)
      have He := Lib.hid (fun W (h1 : DSl W B (.slice p r.length pc) r) => ivalidSt B (.slice p r.length pc) r W h1 (HeM.out r (List.mem_of_getElem? hr)) (by have := amps_row hr; omega))
      have hrl := amps_row hr
      clear hd1 r1 hrow hr
      by_cases hlen : r.length = M.length
      · rw [hlen] at c0 He Hd1
        have Hlen := Lib.hid hlen
        clear hlen hrl
        have hd2 : ((M.length : Int) != M.length) = false := by simp
        cases hs : stB r with
        | false =>
          have hS : mtB M = false := by unfold mtB; rw [Hno.out (by rw [hs]; simp)]; simp
          obtain rfl : R = false := HR.out.trans hS
          rw [hs] at He
          go_wp2_with fail
          refine (He.out _ Hd1.out).mono ?_
          rintro e w2 ⟨rfl, hb2⟩
          have Hb2 := Lib.hid (below_up Hb.out hb2 Hb.out.size)
          clear hb2
          go_wp2_with fail
          go_ret
          exact ⟨rfl, Hb2.out⟩
        | true =>
          rw [hs] at He
          go_wp2_with fail
          refine (He.out _ Hd1.out).mono ?_
          rintro e w2 ⟨rfl, hb2⟩
          have Hb2 := Lib.hid (below_up Hb.out hb2 Hb.out.size)
          clear hb2
          go_wp2_with fail
          go_roundg (M.length - (j + 1))
          case measure => omega
          case rel => exact ⟨j + 1, rfl, by omega, by go_num, Lib.hid (by rw [Hat.out, hs, decide_eq_true Hlen.out]; rfl), Hb2⟩
      · have hS : mtB M = false := by unfold mtB; rw [Hno.out (by rw [decide_eq_false hlen]; rfl)]; simp
        obtain rfl : R = false := HR.out.trans hS
        have hd : ((r.length : Int) != (M.length : Int)) = true := by simp; omega
        go_wp2_with fail
        go_ret
        exact ⟨rfl, Hb.out⟩
    · obtain rfl : j = M.length := by omega
      have hall := Hall.out
      rw [List.take_length] at hall
      have hS : mtB M = decide (0 < M.length) := by unfold mtB; rw [hall, Bool.and_true]
      by_cases h0 : 0 < M.length
      · obtain rfl : R = true := HR.out.trans (hS.trans (decide_eq_true h0))
        go_wp2_with fail
        go_returns
        exact ⟨by simp <;> omega, Hb.out⟩
      · obtain rfl : R = false := HR.out.trans (hS.trans (decide_eq_false h0))
        go_wp2_with fail
        go_returns
        exact ⟨by simp <;> omega, Hb.out⟩
end Go.Proofs.YtlmiebeffdcfhaaGreat
