/- The model's InverseGate, IsClifford, ActsOn, GateName; the laws' own gates. -/
import Derived.Test.YtgknokaibgckkaaGtB
namespace Go.Proofs.Ytgknokaibgckkaa
open Go.RowKit
/-- InverseGate, of kinds and of gates. -/
def invK (k : Int) : Int := if k = 5 then 6 else if k = 6 then 5 else if k = 7 then 8 else if k = 8 then 7 else k
def invG (g : Gt) : Gt := ⟨invK g.k, g.a, g.b, g.c⟩
theorem invK_invK (k : Int) : invK (invK k) = k := by
  unfold invK
  repeat' split
  all_goals omega
theorem invG_invG (g : Gt) : invG (invG g) = g := by unfold invG; simp only [invK_invK]
theorem ar_invK (k : Int) : ar (invK k) = ar k := by
  by_cases h : k = 5 ∨ k = 6 ∨ k = 7 ∨ k = 8
  · rcases h with rfl | rfl | rfl | rfl <;> rfl
  · rw [show invK k = k from by unfold invK; rw [if_neg (by omega), if_neg (by omega), if_neg (by omega), if_neg (by omega)]]
/-- IsClifford. -/
def clB (g : Gt) : Bool := decide (0 < ar g.k) && (!decide (g.k = 7) && !decide (g.k = 8) && !decide (g.k = 12))
attribute [local irreducible] World.cell?
set_option maxRecDepth 100000 in
set_option maxHeartbeats 800000 in
theorem toG (x : Gt) (w : World) :
    Calls Try.prog 21 #[(.agg #[.int .i64 x.k, .int .i64 x.a, .int .i64 x.b, .int .i64 x.c])] w fun e w' => e = .returned (.agg #[.int .i64 x.k, .int .i64 x.a, .int .i64 x.b, .int .i64 x.c]) ∧ Below w.heap.size w w' := by
  go_enter Try.func21, Try.ntmps21
  go_wp2_with fail
  refine bodyPost_ret (v := (.agg #[.int .i64 x.k, .int .i64 x.a, .int .i64 x.b, .int .i64 x.c])) (by simp [results, Try.results21, go_sem]) rfl ⟨rfl, ?_⟩
  go_grown
set_option maxRecDepth 100000 in
set_option maxHeartbeats 800000 in
theorem eqG (x : Gt) (w : World) :
    Calls Try.prog 22 #[(.agg #[.int .i64 x.k, .int .i64 x.a, .int .i64 x.b, .int .i64 x.c]), (.agg #[.int .i64 x.k, .int .i64 x.a, .int .i64 x.b, .int .i64 x.c])] w fun e w' => e = .returned (.bool true) ∧ Below w.heap.size w w' := by
  go_enter Try.func22, Try.ntmps22
  go_wp2_with fail
  go_returns
  exact ⟨rfl, by go_grown⟩
set_option maxRecDepth 100000 in
set_option maxHeartbeats 1600000 in
theorem sinvG (g : Gt) (w : World) :
    Calls Try.prog 13 #[(.agg #[.int .i64 g.k, .int .i64 g.a, .int .i64 g.b, .int .i64 g.c])] w fun e w' => e = .returned (.agg #[.int .i64 (invG g).k, .int .i64 (invG g).a, .int .i64 (invG g).b, .int .i64 (invG g).c]) ∧ Below w.heap.size w w' := by
  obtain ⟨k, a, b, c⟩ := g
  by_cases h5 : k = 5
  · subst h5
    go_enter Try.func13, Try.ntmps13
    go_wp2_with fail
    refine bodyPost_ret (v := (.agg #[.int .i64 (invG ⟨5, a, b, c⟩).k, .int .i64 (invG ⟨5, a, b, c⟩).a, .int .i64 (invG ⟨5, a, b, c⟩).b, .int .i64 (invG ⟨5, a, b, c⟩).c])) (by simp [results, Try.results13, go_sem, invG, invK]) rfl ⟨rfl, ?_⟩
    go_grown
  by_cases h6 : k = 6
  · subst h6
    go_enter Try.func13, Try.ntmps13
    go_wp2_with fail
    refine bodyPost_ret (v := (.agg #[.int .i64 (invG ⟨6, a, b, c⟩).k, .int .i64 (invG ⟨6, a, b, c⟩).a, .int .i64 (invG ⟨6, a, b, c⟩).b, .int .i64 (invG ⟨6, a, b, c⟩).c])) (by simp [results, Try.results13, go_sem, invG, invK]) rfl ⟨rfl, ?_⟩
    go_grown
  by_cases h7 : k = 7
  · subst h7
    go_enter Try.func13, Try.ntmps13
    go_wp2_with fail
    refine bodyPost_ret (v := (.agg #[.int .i64 (invG ⟨7, a, b, c⟩).k, .int .i64 (invG ⟨7, a, b, c⟩).a, .int .i64 (invG ⟨7, a, b, c⟩).b, .int .i64 (invG ⟨7, a, b, c⟩).c])) (by simp [results, Try.results13, go_sem, invG, invK]) rfl ⟨rfl, ?_⟩
    go_grown
  by_cases h8 : k = 8
  · subst h8
    go_enter Try.func13, Try.ntmps13
    go_wp2_with fail
    refine bodyPost_ret (v := (.agg #[.int .i64 (invG ⟨8, a, b, c⟩).k, .int .i64 (invG ⟨8, a, b, c⟩).a, .int .i64 (invG ⟨8, a, b, c⟩).b, .int .i64 (invG ⟨8, a, b, c⟩).c])) (by simp [results, Try.results13, go_sem, invG, invK]) rfl ⟨rfl, ?_⟩
    go_grown
  · have e5 : (k == 5) = false := by simpa using h5
    have e6 : (k == 6) = false := by simpa using h6
    have e7 : (k == 7) = false := by simpa using h7
    have e8 : (k == 8) = false := by simpa using h8
    have hk : invK k = k := by unfold invK; rw [if_neg h5, if_neg h6, if_neg h7, if_neg h8]
    clear h5 h6 h7 h8
    go_enter Try.func13, Try.ntmps13
    go_wp2_with fail
    refine bodyPost_ret (v := (.agg #[.int .i64 (invG ⟨k, a, b, c⟩).k, .int .i64 (invG ⟨k, a, b, c⟩).a, .int .i64 (invG ⟨k, a, b, c⟩).b, .int .i64 (invG ⟨k, a, b, c⟩).c])) (by simp [results, Try.results13, go_sem, invG, hk]) rfl ⟨rfl, ?_⟩
    go_grown
set_option maxRecDepth 100000 in
set_option maxHeartbeats 1600000 in
theorem sisCl (g : Gt) (w : World) :
    Calls Try.prog 23 #[(.agg #[.int .i64 g.k, .int .i64 g.a, .int .i64 g.b, .int .i64 g.c])] w fun e w' => e = .returned (.bool (clB g)) ∧ Below w.heap.size w w' := by
  obtain ⟨k, a, b, c⟩ := g
  have H1 := Lib.hid (fun w => sar k w)
  have Hb0 := Lib.hid (show Below w.heap.size w (w.alloc (.cells #[.int .i64 (Gt.mk k a b c).k, .int .i64 (Gt.mk k a b c).a, .int .i64 (Gt.mk k a b c).b, .int .i64 (Gt.mk k a b c).c] 25)) by go_grown)
  have hc : clB ⟨k, a, b, c⟩ = (decide (0 < ar k) && (!decide (k = 7) && !decide (k = 8) && !decide (k = 12))) := rfl
  rw [hc]
  clear hc
  generalize ar k = t at *
  by_cases ht : 0 < t
  · have h0 : (0 : Int) < t := by omega
    rw [decide_eq_true ht]
    clear ht
    by_cases h7 : k = 7
    · subst h7
      go_enter Try.func23, Try.ntmps23
      go_wp2_with fail
      refine (H1.out _).mono ?_
      rintro e w1 ⟨rfl, rfl⟩
      go_wp2_with fail
      go_ret
      exact ⟨rfl, Hb0.out⟩
    by_cases h8 : k = 8
    · subst h8
      go_enter Try.func23, Try.ntmps23
      go_wp2_with fail
      refine (H1.out _).mono ?_
      rintro e w1 ⟨rfl, rfl⟩
      go_wp2_with fail
      go_ret
      exact ⟨rfl, Hb0.out⟩
    by_cases h12 : k = 12
    · subst h12
      go_enter Try.func23, Try.ntmps23
      go_wp2_with fail
      refine (H1.out _).mono ?_
      rintro e w1 ⟨rfl, rfl⟩
      go_wp2_with fail
      go_ret
      exact ⟨rfl, Hb0.out⟩
    · have e7 : (k != 7) = true := by simpa using h7
      have e8 : (k != 8) = true := by simpa using h8
      have e12 : (k != 12) = true := by simpa using h12
      rw [decide_eq_false h7, decide_eq_false h8, decide_eq_false h12]
      clear h7 h8 h12
      go_enter Try.func23, Try.ntmps23
      go_wp2_with fail
      refine (H1.out _).mono ?_
      rintro e w1 ⟨rfl, rfl⟩
      go_wp2_with fail
      go_ret
      exact ⟨rfl, Hb0.out⟩
  · have h0 : ¬ (0 : Int) < t := by omega
    rw [decide_eq_false ht]
    clear ht
    go_enter Try.func23, Try.ntmps23
    go_wp2_with fail
    refine (H1.out _).mono ?_
    rintro e w1 ⟨rfl, rfl⟩
    go_wp2_with fail
    go_ret
    exact ⟨rfl, Hb0.out⟩
set_option maxRecDepth 100000 in
set_option maxHeartbeats 1600000 in
theorem sacts (g : Gt) (q : Int) (w : World) :
    Calls Try.prog 24 #[(.agg #[.int .i64 g.k, .int .i64 g.a, .int .i64 g.b, .int .i64 g.c]), .int .i64 q] w fun e w' => e = .returned (.bool (decide (q ∈ gqs g))) ∧ Below w.heap.size w w' := by
  have Hb0 := Lib.hid (show Below w.heap.size w (w.alloc (.cells #[.int .i64 g.k, .int .i64 g.a, .int .i64 g.b, .int .i64 g.c] 25)) by go_grown)
  have H1 := Lib.hid (fun W => sgqs g W)
  have hL := gqs_len g
  have h3 := ar_le g.k
  have H2 := Lib.hid (fun P v W (h : intE.Sl W P v (gqs g)) => shas P v (gqs g) q W h (by omega))
  clear hL h3
  generalize decide (q ∈ gqs g) = T at *
  generalize gqs g = l at *
  go_enter Try.func24, Try.ntmps24
  go_wp2_with fail
  refine (H1.out _).mono ?_
  rintro e w1 ⟨v, rfl, hd, hb1⟩
  have Hb1 := Lib.hid (below_nx Hb0.out hb1)
  have H3 := Lib.hid (H2.out _ _ _ hd)
  clear hb1 hd
  go_wp2_with fail
  refine (H3.out).mono ?_
  rintro e w2 ⟨rfl, rfl⟩
  go_wp2_with fail
  go_ret
  exact ⟨rfl, Hb1.out⟩
/-- GateName. -/
def nmL : List ByteArray := [⟨#[]⟩, ⟨#[120]⟩, ⟨#[121]⟩, ⟨#[122]⟩, ⟨#[104]⟩, ⟨#[115]⟩, ⟨#[115, 100]⟩, ⟨#[116]⟩, ⟨#[116, 100]⟩, ⟨#[99, 120]⟩, ⟨#[99, 122]⟩, ⟨#[115, 119, 97, 112]⟩, ⟨#[99, 99, 120]⟩]
def nmB (k : Int) : ByteArray := if 1 ≤ k ∧ k ≤ 12 then nmL.getD k.toNat ⟨#[]⟩ else ⟨#[]⟩
end Go.Proofs.Ytgknokaibgckkaa
