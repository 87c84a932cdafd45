/- Gates of the model: how many qubits each kind has, which ones, validity. -/
import Derived.Test.YtckfklpgnneodaaPeD
namespace Go.Proofs.Ytckfklpgnneodaa
open Go.RowKit
/-- A gate: its kind and three qubits. -/
structure Gt where
  k : Int
  a : Int
  b : Int
  c : Int
/-- The number of qubits of a kind. -/
def ar (k : Int) : Nat := if 1 ≤ k ∧ k ≤ 8 then 1 else if 9 ≤ k ∧ k ≤ 11 then 2 else if k = 12 then 3 else 0
theorem ar_le (k : Int) : ar k ≤ 3 := by unfold ar; (repeat' split) <;> omega
/-- The qubits of a gate. -/
def gqs (g : Gt) : List Int := [g.a, g.b, g.c].take (ar g.k)
/-- Gates, four cells each. -/
def gtE : Enc Gt := ⟨fun g => [.int .i64 g.k, .int .i64 g.a, .int .i64 g.b, .int .i64 g.c], 4, 59, fun _ => rfl, fun x u h => by simp at h; rcases h with rfl | rfl | rfl | rfl <;> rfl⟩
/-- Whether a gate's qubit j is as it must be: 0 where the gate has none, else from 0 to hi and none of the earlier ones. -/
def gtOk (g : Gt) (hi : Int) (j : Nat) : Bool :=
  if ar g.k ≤ j then decide ([g.a, g.b, g.c].getD j 0 = 0) else decide (0 ≤ [g.a, g.b, g.c].getD j 0 ∧ [g.a, g.b, g.c].getD j 0 ≤ hi) && !decide ([g.a, g.b, g.c].getD j 0 ∈ (gqs g).take j)
/-- IsValidGate. -/
def gtB (g : Gt) (n : Int) : Bool := (List.range 3).all (gtOk g (IntKind.i64.wrap (n - 1))) && (decide (0 < ar g.k) && decide (1 ≤ n ∧ n ≤ 4))
attribute [local irreducible] World.cell?
set_option maxRecDepth 100000 in
set_option maxHeartbeats 800000 in
theorem sar (k : Int) (w : World) :
    Calls Try.prog 48 #[.int .i64 k] w fun e w' => e = .returned (.int .i64 (ar k)) ∧ w = w' := by
  by_cases h1 : 1 ≤ k ∧ k ≤ 8
  · rw [show ar k = 1 from if_pos h1]
    have H1 := Lib.hid (fun w => lin_any k 1 8 true w (decide_eq_true h1))
    clear h1
    go_enter Try.func48, Try.ntmps48
    go_wp2_with fail
    refine (H1.out _).mono ?_
    rintro e w1 ⟨rfl, rfl⟩
    go_wp2_with fail
    go_ret
    exact ⟨rfl, rfl⟩
  · by_cases h2 : 9 ≤ k ∧ k ≤ 11
    · rw [show ar k = 2 by unfold ar; rw [if_neg h1, if_pos h2]]
      have H1 := Lib.hid (fun w => lin_any k 1 8 false w (decide_eq_false h1))
      have H2 := Lib.hid (fun w => lin_any k 9 11 true w (decide_eq_true h2))
      clear h1 h2
      go_enter Try.func48, Try.ntmps48
      go_wp2_with fail
      refine (H1.out _).mono ?_
      rintro e w1 ⟨rfl, rfl⟩
      go_wp2_with fail
      refine (H2.out _).mono ?_
      rintro e w2 ⟨rfl, rfl⟩
      go_wp2_with fail
      go_ret
      exact ⟨rfl, rfl⟩
    · have H1 := Lib.hid (fun w => lin_any k 1 8 false w (decide_eq_false h1))
      have H2 := Lib.hid (fun w => lin_any k 9 11 false w (decide_eq_false h2))
      by_cases h3 : k = 12
      · subst h3
        rw [show ar 12 = 3 from rfl]
        clear h1 h2
        go_enter Try.func48, Try.ntmps48
        go_wp2_with fail
        refine (H1.out _).mono ?_
        rintro e w1 ⟨rfl, rfl⟩
        go_wp2_with fail
        refine (H2.out _).mono ?_
        rintro e w2 ⟨rfl, rfl⟩
        go_wp2_with fail
        go_ret
        exact ⟨rfl, rfl⟩
      · rw [show ar k = 0 by unfold ar; rw [if_neg h1, if_neg h2, if_neg h3]]
        have h4 : (k == 12) = false := by simpa using h3
        clear h1 h2 h3
        go_enter Try.func48, Try.ntmps48
        go_wp2_with fail
        refine (H1.out _).mono ?_
        rintro e w1 ⟨rfl, rfl⟩
        go_wp2_with fail
        refine (H2.out _).mono ?_
        rintro e w2 ⟨rfl, rfl⟩
        go_wp2_with fail
        go_ret
        exact ⟨rfl, rfl⟩
theorem gqs_len (g : Gt) : (gqs g).length = ar g.k := by unfold gqs; rw [List.length_take]; have := ar_le g.k; simp; omega
set_option maxRecDepth 100000 in
set_option maxHeartbeats 1600000 in
theorem sgqs (g : Gt) (w : World) :
    Calls Try.prog 73 #[(.agg #[.int .i64 g.k, .int .i64 g.a, .int .i64 g.b, .int .i64 g.c])] w fun e w' => ∃ v, e = .returned v ∧ intE.Sl w' w.heap.size v (gqs g) ∧ Below w.heap.size w w' := by
  obtain ⟨i0, hi, hz0, hz1, hz2⟩ := info_parts infoInt
  have Ha := Lib.hid (fun w => sar g.k w)
  have hL := gqs_len g
  have h3 := ar_le g.k
  have hrow : intE.Row (((w.alloc (.cells #[.int .i64 g.k, .int .i64 g.a, .int .i64 g.b, .int .i64 g.c] 59)).alloc (.cells #[.int .i64 g.a, .int .i64 g.b, .int .i64 g.c] 3)).alloc (.cells #[] 3)) (w.heap.size + 1) (gqs g) := by
    have h1 : ((w.alloc (.cells #[.int .i64 g.k, .int .i64 g.a, .int .i64 g.b, .int .i64 g.c] 59)).alloc (.cells #[.int .i64 g.a, .int .i64 g.b, .int .i64 g.c] 3)).heap[w.heap.size + 1]? = some (.cells #[.int .i64 g.a, .int .i64 g.b, .int .i64 g.c] 3 (0, 0)) := by
      simpa using heap_alloc_new (w.alloc (.cells #[.int .i64 g.k, .int .i64 g.a, .int .i64 g.b, .int .i64 g.c] 59)) (.cells #[.int .i64 g.a, .int .i64 g.b, .int .i64 g.c] 3)
    exact Enc.Row.take (E := intE) (l := [g.a, g.b, g.c]) ⟨#[.int .i64 g.a, .int .i64 g.b, .int .i64 g.c], alloc_blk _ h1, rfl⟩ (ar g.k)
  have Hnew := Lib.hid (intE_src hrow)
  have Hp := Lib.hid (intE.flat_plain (gqs g))
  have Hl := Lib.hid (show (intE.flat (gqs g)).length = ar g.k * 1 by rw [intE.flat_len, hL]; rfl)
  have Hown := Lib.hid (Enc.own_nil (E := intE) (w := (w.alloc (.cells #[.int .i64 g.k, .int .i64 g.a, .int .i64 g.b, .int .i64 g.c] 59)).alloc (.cells #[.int .i64 g.a, .int .i64 g.b, .int .i64 g.c] 3)) (n := w.heap.size + 2) (by simp))
  have HB := Lib.hid (show Below w.heap.size w (((w.alloc (.cells #[.int .i64 g.k, .int .i64 g.a, .int .i64 g.b, .int .i64 g.c] 59)).alloc (.cells #[.int .i64 g.a, .int .i64 g.b, .int .i64 g.c] 3)).alloc (.cells #[] 3)) by go_grown)
  clear hrow
  generalize ar g.k = t at *
  have HL := Lib.hid hL
  clear hL
  go_enter Try.func73, Try.ntmps73
  go_wp2_with fail
  refine (Ha.out _).mono ?_
  rintro e w1 ⟨rfl, rfl⟩
  go_wp2_with (first
    | (at_builtin; (refine wpList_append_own _ rfl _ _ 81 rfl (w.heap.size + 2) 3 i0 (.int .i64 0) 1 8 Try.underlying81 hi hz0 hz1 hz2 rfl (by decide) _ _ _ rfl Hown.out ⟨w.heap.size + 1, 0, none⟩ t 3 (intE.flat (gqs g)) rfl Hl.out Hnew.out Hp.out ?d3 ?d4 ?d5 ?_)))
  case d3 => unfold maxLen; omega
  case d4 => omega
  case d5 => simp
  intro v' w4 hown' hgrow _
  have hown2 : w4.ownsRow (w.heap.size + 2) 3 1 v' t (intE.flat (gqs g)) := by
    have h : w4.ownsRow (w.heap.size + 2) 3 1 v' t ([] ++ intE.flat (gqs g)) := hown'
    rwa [List.nil_append] at h
  have HB4 := Lib.hid (HB.out.grown hgrow (by simp; omega) (fun q hq => by have := Hown.out.lt q hq; omega))
  have Hs := Lib.hid ((Enc.Sl.of_own (E := intE) (l := gqs g) (by rw [HL.out]; exact hown2)).mono (show w.heap.size ≤ w.heap.size + 2 by omega))
  clear hown' hown2 hgrow
  go_wp2_with fail
  go_ret
  exact ⟨_, rfl, Hs.out, HB4.out⟩
end Go.Proofs.Ytckfklpgnneodaa
