/- BaseB04: several of our texts in one: GtA MtR MtL MtQ IsL IsO IsS MtKp. -/
import Derived.Test.YtckfklpgnneodaaGreatBaseB07
import Derived.Test.YtckfklpgnneodaaGreatBaseB03
import Derived.Deep.Slices
import Derived.OpenShut
namespace Go.Proofs.YtckfklpgnneodaaGreat
open Go.RowKit
/-- A gate: its kind and three qubits. -/
structure Gt where
  k : Int
  a : Int
  b : Int
  c : Int
/-- The number of qubits of a kind. -/
def ar (k : Int) : Nat := if 1 ≤ k ∧ k ≤ 8 then 1 else if 9 ≤ k ∧ k ≤ 11 then 2 else if k = 12 then 3 else 0
theorem ar_le (k : Int) : ar k ≤ 3 := by unfold ar; (repeat' split) <;> omega
/-- The qubits of a gate. -/
def gqs (g : Gt) : List Int := [g.a, g.b, g.c].take (ar g.k)
/-- Gates, four cells each. -/
def gtE : Enc Gt := ⟨fun g => [.int .i64 g.k, .int .i64 g.a, .int .i64 g.b, .int .i64 g.c], 4, 44, fun _ => rfl, fun x u h => by simp at h; rcases h with rfl | rfl | rfl | rfl <;> rfl⟩
/-- Whether a gate's qubit j is as it must be: 0 where the gate has none, else from 0 to hi and none of the earlier ones. -/
def gtOk (g : Gt) (hi : Int) (j : Nat) : Bool :=
  if ar g.k ≤ j then decide ([g.a, g.b, g.c].getD j 0 = 0) else decide (0 ≤ [g.a, g.b, g.c].getD j 0 ∧ [g.a, g.b, g.c].getD j 0 ≤ hi) && !decide ([g.a, g.b, g.c].getD j 0 ∈ (gqs g).take j)
/-- IsValidGate. -/
def gtB (g : Gt) (n : Int) : Bool := (List.range 3).all (gtOk g (IntKind.i64.wrap (n - 1))) && (decide (0 < ar g.k) && decide (1 ≤ n ∧ n ≤ 4))
attribute [local irreducible] World.cell?
set_option maxRecDepth 100000 in
set_option maxHeartbeats 800000 in
theorem sar (k : Int) (w : World) :
    Calls Tryz.prog 54 #[.int .i64 k] w fun e w' => e = .returned (.int .i64 (ar k)) ∧ w = w' := by
  by_cases h1 : 1 ≤ k ∧ k ≤ 8
  · rw [show ar k = 1 from if_pos h1]
    have H1 := Lib.hid (fun w => lin_any k 1 8 true w (decide_eq_true h1))
    clear h1
    go_enter Tryz.func54, Tryz.ntmps54
    go_wp2_with fail
    refine (H1.out _).mono ?_
    rintro e w1 ⟨rfl, rfl⟩
    go_wp2_with fail
    go_ret
    exact ⟨rfl, rfl⟩
  · by_cases h2 : 9 ≤ k ∧ k ≤ 11
    · rw [show ar k = 2 by unfold ar; rw [if_neg h1, if_pos h2]]
      have H1 := Lib.hid (fun w => lin_any k 1 8 false w (decide_eq_false h1))
      have H2 := Lib.hid (fun w => lin_any k 9 11 true w (decide_eq_true h2))
      clear h1 h2
      go_enter Tryz.func54, Tryz.ntmps54
      go_wp2_with fail
      refine (H1.out _).mono ?_
      rintro e w1 ⟨rfl, rfl⟩
      go_wp2_with fail
      refine (H2.out _).mono ?_
      rintro e w2 ⟨rfl, rfl⟩
      go_wp2_with fail
      go_ret
      exact ⟨rfl, rfl⟩
    · have H1 := Lib.hid (fun w => lin_any k 1 8 false w (decide_eq_false h1))
      have H2 := Lib.hid (fun w => lin_any k 9 11 false w (decide_eq_false h2))
      by_cases h3 : k = 12
      · subst h3
        rw [show ar 12 = 3 from rfl]
        clear h1 h2
        go_enter Tryz.func54, Tryz.ntmps54
        go_wp2_with fail
        refine (H1.out _).mono ?_
        rintro e w1 ⟨rfl, rfl⟩
        go_wp2_with fail
        refine (H2.out _).mono ?_
        rintro e w2 ⟨rfl, rfl⟩
        go_wp2_with fail
        go_ret
        exact ⟨rfl, rfl⟩
      · rw [show ar k = 0 by unfold ar; rw [if_neg h1, if_neg h2, if_neg h3]]
        have h4 : (k == 12) = false := by simpa using h3
        clear h1 h2 h3
        go_enter Tryz.func54, Tryz.ntmps54
        go_wp2_with fail
        refine (H1.out _).mono ?_
        rintro e w1 ⟨rfl, rfl⟩
        go_wp2_with fail
        refine (H2.out _).mono ?_
        rintro e w2 ⟨rfl, rfl⟩
        go_wp2_with fail
        go_ret
        exact ⟨rfl, rfl⟩
theorem gqs_len (g : Gt) : (gqs g).length = ar g.k := by unfold gqs; rw [List.length_take]; have := ar_le g.k; simp; omega
set_option maxRecDepth 100000 in
set_option maxHeartbeats 1600000 in
theorem sgqs (g : Gt) (w : World) :
    Calls Tryz.prog 37 #[(.agg #[.int .i64 g.k, .int .i64 g.a, .int .i64 g.b, .int .i64 g.c])] w fun e w' => ∃ v, e = .returned v ∧ intE.Sl w' w.heap.size v (gqs g) ∧ Below w.heap.size w w' := by
  obtain ⟨i0, hi, hz0, hz1, hz2⟩ := info_parts infoInt
  have Ha := Lib.hid (fun w => sar g.k w)
  have hL := gqs_len g
  have h3 := ar_le g.k
  have hrow : intE.Row (((w.alloc (.cells #[.int .i64 g.k, .int .i64 g.a, .int .i64 g.b, .int .i64 g.c] 44)).alloc (.cells #[.int .i64 g.a, .int .i64 g.b, .int .i64 g.c] 3)).alloc (.cells #[] 3)) (w.heap.size + 1) (gqs g) := by
    have h1 : ((w.alloc (.cells #[.int .i64 g.k, .int .i64 g.a, .int .i64 g.b, .int .i64 g.c] 44)).alloc (.cells #[.int .i64 g.a, .int .i64 g.b, .int .i64 g.c] 3)).heap[w.heap.size + 1]? = some (.cells #[.int .i64 g.a, .int .i64 g.b, .int .i64 g.c] 3 (0, 0)) := by
      simpa using heap_alloc_new (w.alloc (.cells #[.int .i64 g.k, .int .i64 g.a, .int .i64 g.b, .int .i64 g.c] 44)) (.cells #[.int .i64 g.a, .int .i64 g.b, .int .i64 g.c] 3)
    exact Enc.Row.take (E := intE) (l := [g.a, g.b, g.c]) ⟨#[.int .i64 g.a, .int .i64 g.b, .int .i64 g.c], alloc_blk _ h1, rfl⟩ (ar g.k)
  have Hnew := Lib.hid (intE_src hrow)
  have Hp := Lib.hid (intE.flat_plain (gqs g))
  have Hl := Lib.hid (show (intE.flat (gqs g)).length = ar g.k * 1 by rw [intE.flat_len, hL]; rfl)
  have Hown := Lib.hid (Enc.own_nil (E := intE) (w := (w.alloc (.cells #[.int .i64 g.k, .int .i64 g.a, .int .i64 g.b, .int .i64 g.c] 44)).alloc (.cells #[.int .i64 g.a, .int .i64 g.b, .int .i64 g.c] 3)) (n := w.heap.size + 2) (by simp))
  have HB := Lib.hid (show Below w.heap.size w (((w.alloc (.cells #[.int .i64 g.k, .int .i64 g.a, .int .i64 g.b, .int .i64 g.c] 44)).alloc (.cells #[.int .i64 g.a, .int .i64 g.b, .int .i64 g.c] 3)).alloc (.cells #[] 3)) by go_grown)
  clear hrow
  generalize ar g.k = t at *
  have HL := Lib.hid hL
  clear hL
  go_enter Tryz.func37, Tryz.ntmps37
  go_wp2_with fail
  refine (Ha.out _).mono ?_
  rintro e w1 ⟨rfl, rfl⟩
  go_wp2_with (first
    | (at_builtin; (refine wpList_append_own _ rfl _ _ 61 rfl (w.heap.size + 2) 3 i0 (.int .i64 0) 1 8 Tryz.underlying61 hi hz0 hz1 hz2 rfl (by decide) _ _ _ rfl Hown.out ⟨w.heap.size + 1, 0, none⟩ t 3 (intE.flat (gqs g)) rfl Hl.out Hnew.out Hp.out ?d3 ?d4 ?d5 ?_)))
  case d3 => unfold maxLen; omega
  case d4 => omega
  case d5 => simp
  intro v' w4 hown' hgrow _
  have hown2 : w4.ownsRow (w.heap.size + 2) 3 1 v' t (intE.flat (gqs g)) := by
    have h : w4.ownsRow (w.heap.size + 2) 3 1 v' t ([] ++ intE.flat (gqs g)) := hown'
    rwa [List.nil_append] at h
  have HB4 := Lib.hid (HB.out.grown hgrow (by simp; omega) (fun q hq => by have := Hown.out.lt q hq; omega))
  have Hs := Lib.hid ((Enc.Sl.of_own (E := intE) (l := gqs g) (by rw [HL.out]; exact hown2)).mono (show w.heap.size ≤ w.heap.size + 2 by omega))
  clear hown' hown2 hgrow
  go_wp2_with fail
  go_ret
  exact ⟨_, rfl, Hs.out, HB4.out⟩
end Go.Proofs.YtckfklpgnneodaaGreat
namespace Go.Proofs.YtckfklpgnneodaaGreat
open Go.RowKit
/-- A slice whose row, if it has one, lies in block n, from B up to C. -/
def RowAt (w : World) (B C n : Nat) (v : Value) (r : List Dw) : Prop :=
  ∃ a cap, v = .slice a r.length cap ∧ r.length ≤ cap ∧ (0 < r.length → a = some ⟨n, 0, none⟩ ∧ B ≤ n ∧ n < C ∧ DRow w n r)
theorem RowAt.dsc2 {w : World} {B C n : Nat} {v : Value} {r : List Dw} (h : RowAt w B C n v r) : DSc w B C v r := by
  obtain ⟨a, cap, h1, h2, h3⟩ := h
  exact ⟨a, cap, h1, h2, fun hl => by obtain ⟨e, hB, hC, hr⟩ := h3 hl; exact ⟨n, e, hB, hC, hr⟩⟩
theorem RowAt.block {w w' : World} {B C n : Nat} {v : Value} {r : List Dw} (h : RowAt w B C n v r) (hb : 0 < r.length → B ≤ n → n < C → n < w.heap.size → w'.heap[n]? = w.heap[n]?) : RowAt w' B C n v r := by
  obtain ⟨a, cap, h1, h2, h3⟩ := h
  exact ⟨a, cap, h1, h2, fun hl => by obtain ⟨e, hB, hC, hr⟩ := h3 hl; exact ⟨e, hB, hC, hr.block (hb hl hB hC hr.lt)⟩⟩
theorem RowAt.mono {w : World} {B C D E n : Nat} {v : Value} {r : List Dw} (h : RowAt w B C n v r) (h1 : D ≤ B) (h2 : C ≤ E) : RowAt w D E n v r := by
  obtain ⟨a, cap, e1, e2, h3⟩ := h
  exact ⟨a, cap, e1, e2, fun hl => by obtain ⟨e, hB, hC, hr⟩ := h3 hl; exact ⟨e, by omega, by omega, hr⟩⟩
theorem DSc.rowAt {w : World} {B C : Nat} {v : Value} {r : List Dw} (h : DSc w B C v r) : ∃ n, RowAt w B C n v r := by
  obtain ⟨a, cap, h1, h2, h3⟩ := h
  by_cases hl : 0 < r.length
  · obtain ⟨g, e, hB, hC, hr⟩ := h3 hl
    exact ⟨g, a, cap, h1, h2, fun _ => ⟨e, hB, hC, hr⟩⟩
  · exact ⟨0, a, cap, h1, h2, fun h => absurd h hl⟩
/-- The rows' slices, each row in a block of its own. -/
def RwS (w : World) (B C : Nat) (vs : List Value) (M : List (List Dw)) : Prop :=
  vs.length = M.length ∧ ∃ G : Nat → Nat, (∀ j v r, vs[j]? = some v → M[j]? = some r → RowAt w B C (G j) v r) ∧
    (∀ i j r s, M[i]? = some r → M[j]? = some s → 0 < r.length → 0 < s.length → G i = G j → i = j)
theorem RwS.nil {w : World} {B C : Nat} : RwS w B C [] [] := ⟨rfl, fun _ => 0, fun j v r h => by simp at h, fun i j r s h => by simp at h⟩
theorem RwS.block {w w' : World} {B C : Nat} {vs : List Value} {M : List (List Dw)} (h : RwS w B C vs M) (hb : ∀ k, B ≤ k → k < C → k < w.heap.size → w'.heap[k]? = w.heap[k]?) : RwS w' B C vs M := by
  obtain ⟨h1, G, h2, h3⟩ := h
  exact ⟨h1, G, fun j v r hv hr => (h2 j v r hv hr).block fun _ a b c => hb _ a b c, h3⟩
/-- The rows stay where a block that holds no row of fractions turns. -/
theorem RwS.own {w w' : World} {B C g : Nat} {vs : List Value} {M : List (List Dw)} {cs : Array Value} (h : RwS w B C vs M) (hg : w.heap[g]? = some (.cells cs 57 (0, 0)))
    (hb : ∀ k, k ≠ g → k < w.heap.size → w'.heap[k]? = w.heap[k]?) : RwS w' B C vs M := by
  obtain ⟨h1, G, h2, h3⟩ := h
  refine ⟨h1, G, fun j v r hv hr => (h2 j v r hv hr).block fun hl _ _ c => hb _ ?_ c, h3⟩
  intro e
  obtain ⟨_, _, _, _, k⟩ := h2 j v r hv hr
  obtain ⟨_, _, _, cs', hc, _⟩ := k hl
  rw [e, hg] at hc
  injection hc with hc
  injection hc with _ hc
  exact absurd hc (by decide)
theorem RwS.mono {w : World} {B C D E : Nat} {vs : List Value} {M : List (List Dw)} (h : RwS w B C vs M) (h1 : D ≤ B) (h2 : C ≤ E) : RwS w D E vs M := by
  obtain ⟨a, G, b, c⟩ := h
  exact ⟨a, G, fun j v r hv hr => (b j v r hv hr).mono h1 h2, c⟩
theorem RwS.upto {w : World} {B C : Nat} {vs : List Value} {M : List (List Dw)} (h : RwS w B C vs M) : RwS w B w.heap.size vs M := by
  obtain ⟨a, G, b, c⟩ := h
  refine ⟨a, G, fun j v r hv hr => ?_, c⟩
  obtain ⟨p, cap, e1, e2, e3⟩ := b j v r hv hr
  exact ⟨p, cap, e1, e2, fun hl => by obtain ⟨e, hB, _, hr⟩ := e3 hl; exact ⟨e, hB, hr.lt, hr⟩⟩
theorem RwS.at {w : World} {B C : Nat} {vs : List Value} {M : List (List Dw)} (h : RwS w B C vs M) {j : Nat} {r : List Dw} (hr : M[j]? = some r) : ∃ v, vs[j]? = some v ∧ DSc w B C v r := by
  obtain ⟨h1, G, h2, h3⟩ := h
  have hj : j < M.length := by
    rcases Nat.lt_or_ge j M.length with k | k
    · exact k
    · rw [List.getElem?_eq_none k] at hr; cases hr
  have e : vs[j]? = some (vs[j]'(by omega)) := List.getElem?_eq_getElem _
  exact ⟨_, e, (h2 j _ r e hr).dsc2⟩
/-- A new row takes the place of row j. -/
theorem RwS.set {w w' : World} {B C C' : Nat} {vs : List Value} {M : List (List Dw)} (h : RwS w B C vs M) {j : Nat} {v : Value} {r : List Dw} (hv : DSc w' C C' v r) (hB : B ≤ C) (hC : C ≤ C')
    (hb : ∀ k, B ≤ k → k < C → k < w.heap.size → w'.heap[k]? = w.heap[k]?) : RwS w' B C' (vs.set j v) (M.set j r) := by
  obtain ⟨h1, G, h2, h3⟩ := h
  obtain ⟨n, hn⟩ := hv.rowAt
  refine ⟨by simp [h1], fun i => if i = j then n else G i, fun i u s hu hs => ?_, fun i k s t hs ht ls lt e => ?_⟩
  · by_cases hi : i = j
    · subst hi
      have hl : i < vs.length := by
        rcases Nat.lt_or_ge i vs.length with k | k
        · exact k
        · rw [List.getElem?_eq_none (by simpa using k)] at hu; cases hu
      rw [List.getElem?_set_self hl] at hu
      rw [List.getElem?_set_self (by omega)] at hs
      injection hu with hu; injection hs with hs
      subst hu hs
      simpa using hn.mono hB (Nat.le_refl _)
    · rw [List.getElem?_set_ne (by omega)] at hu
      rw [List.getElem?_set_ne (by omega)] at hs
      simp only [hi, if_false]
      exact ((h2 i u s hu hs).block fun _ a b c => hb _ a b c).mono (Nat.le_refl _) hC
  · have key : ∀ (i : Nat) (s : List Dw), i ≠ j → M[i]? = some s → 0 < s.length → G i < C := fun i s hi hs ls => by
      have hl : i < M.length := by
        rcases Nat.lt_or_ge i M.length with k | k
        · exact k
        · rw [List.getElem?_eq_none k] at hs; cases hs
      have e : vs[i]? = some (vs[i]'(by omega)) := List.getElem?_eq_getElem _
      obtain ⟨_, _, _, _, q⟩ := h2 i _ s e hs
      exact (q ls).2.2.1
    have self : ∀ (t : List Dw), (M.set j r)[j]? = some t → 0 < t.length → C ≤ n := fun t ht lt => by
      have hl : j < M.length := by
        rcases Nat.lt_or_ge j M.length with k | k
        · exact k
        · rw [List.getElem?_eq_none (by simpa using k)] at ht; cases ht
      rw [List.getElem?_set_self hl] at ht
      injection ht with ht
      subst ht
      obtain ⟨_, _, _, _, q⟩ := hn
      exact (q lt).2.1
    by_cases hi : i = j <;> by_cases hk : k = j
    · omega
    · exfalso
      simp only [hi, hk, if_true, if_false] at e
      rw [hi] at hs
      rw [List.getElem?_set_ne (by omega)] at ht
      have := key k t hk ht lt
      have := self s hs ls
      omega
    · exfalso
      simp only [hi, hk, if_true, if_false] at e
      rw [hk] at ht
      rw [List.getElem?_set_ne (by omega)] at hs
      have := key i s hi hs ls
      have := self t ht lt
      omega
    · simp only [hi, hk, if_false] at e
      rw [List.getElem?_set_ne (by omega)] at hs ht
      exact h3 i k s t hs ht ls lt e
/-- A new row behind the others. -/
theorem RwS.snoc {w w' : World} {B C C' : Nat} {vs : List Value} {M : List (List Dw)} (h : RwS w B C vs M) {v : Value} {r : List Dw} (hv : DSc w' C C' v r) (hB : B ≤ C) (hC : C ≤ C')
    (hb : ∀ k, B ≤ k → k < C → k < w.heap.size → w'.heap[k]? = w.heap[k]?) : RwS w' B C' (vs ++ [v]) (M ++ [r]) := by
  have hl := h.1
  have h0 : RwS w B C (vs ++ [.slice none 0 0]) (M ++ [[]]) := by
    obtain ⟨h1, G, h2, h3⟩ := h
    refine ⟨by simp [h1], G, fun j u s hu hs => ?_, fun i k s t hs ht ls lt e => ?_⟩
    · by_cases hj : j < M.length
      · rw [List.getElem?_append_left (by omega)] at hu
        rw [List.getElem?_append_left hj] at hs
        exact h2 j u s hu hs
      · rw [List.getElem?_append_right (by omega)] at hu
        rw [List.getElem?_append_right (by omega)] at hs
        by_cases hj2 : j - M.length = 0
        · rw [hj2] at hs
          rw [h1, hj2] at hu
          simp at hu hs
          subst hu hs
          exact ⟨none, 0, rfl, Nat.le_refl _, fun h => absurd h (by simp)⟩
        · rw [List.getElem?_eq_none (by simp; omega)] at hs; cases hs
    · have key : ∀ (i : Nat) (s : List Dw), (M ++ [[]])[i]? = some s → 0 < s.length → M[i]? = some s := fun i s hs ls => by
        by_cases hj : i < M.length
        · rwa [List.getElem?_append_left hj] at hs
        · rw [List.getElem?_append_right (by omega)] at hs
          by_cases hj2 : i - M.length = 0
          · rw [hj2] at hs; simp at hs; subst hs; simp at ls
          · rw [List.getElem?_eq_none (by simp; omega)] at hs; cases hs
      exact h3 i k s t (key i s hs ls) (key k t ht lt) ls lt e
  have h4 := h0.set (j := M.length) hv hB hC hb
  rw [List.set_append_right _ _ (by omega), List.set_append_right _ _ (by omega)] at h4
  simpa [hl] using h4
/-- A row turns in place, its length stays. -/
theorem RwS.turn {w : World} {B C : Nat} {vs : List Value} {M : List (List Dw)} (h : RwS w B C vs M) {j : Nat} {r : List Dw} (hr : M[j]? = some r) :
    ∃ v b c, vs[j]? = some v ∧ B ≤ b ∧ b ≤ c ∧ (c ≤ C ∨ c = B) ∧ DSc w b c v r ∧ (0 < r.length → c = b + 1 ∧ ∃ cs, w.heap[b]? = some (.cells cs 83 (0, 0))) ∧ (r.length = 0 → b = c) ∧
      ∀ w' r', r'.length = r.length → DSc w' b c v r' → Mid b c w w' → RwS w' B C vs (M.set j r') := by
  obtain ⟨h1, G, h2, h3⟩ := h
  have hj : j < M.length := by
    rcases Nat.lt_or_ge j M.length with k | k
    · exact k
    · rw [List.getElem?_eq_none k] at hr; cases hr
  have e : vs[j]? = some (vs[j]'(by omega)) := List.getElem?_eq_getElem _
  have hat := h2 j _ r e hr
  by_cases hl : 0 < r.length
  · obtain ⟨a, cap, e1, e2, e3⟩ := hat
    obtain ⟨ea, hB, hC, hrow⟩ := e3 hl
    refine ⟨_, G j, G j + 1, e, hB, by omega, .inl hC, ⟨a, cap, e1, e2, fun _ => ⟨_, ea, Nat.le_refl _, Nat.lt_succ_self _, hrow⟩⟩, fun _ => ⟨rfl, by obtain ⟨cs, hc, _⟩ := hrow; exact ⟨cs, hc⟩⟩, fun h => absurd h (by omega), fun w' r' hlen hd hm => ?_⟩
    refine ⟨by simp [h1], G, fun i u s hu hs => ?_, fun i k s t hs ht ls lt ek => ?_⟩
    · by_cases hi : i = j
      · subst hi
        rw [List.getElem?_set_self hj] at hs
        injection hs with hs
        subst hs
        rw [e] at hu
        injection hu with hu
        subst hu
        obtain ⟨a', cap', f1, f2, f3⟩ := hd
        refine ⟨a', cap', f1, f2, fun hl' => ?_⟩
        obtain ⟨g', f4, f5, f6, f7⟩ := f3 hl'
        obtain rfl : g' = G i := by omega
        exact ⟨f4, hB, hC, f7⟩
      · rw [List.getElem?_set_ne (by omega)] at hs
        refine (h2 i u s hu hs).block fun ls _ _ c => ?_
        have hne : G i ≠ G j := fun k => hi (h3 i j s r hs hr ls hl k)
        rcases Nat.lt_or_ge (G i) (G j) with k | k
        · exact hm.1.block _ k
        · exact hm.2 _ (by omega) c
    · have key : ∀ (i : Nat) (s : List Dw), (M.set j r')[i]? = some s → 0 < s.length → ∃ s' : List Dw, M[i]? = some s' ∧ 0 < s'.length := fun i s hs ls => by
        by_cases hi : i = j
        · subst hi
          rw [List.getElem?_set_self hj] at hs
          injection hs with hs
          exact ⟨r, hr, hl⟩
        · rw [List.getElem?_set_ne (by omega)] at hs
          exact ⟨s, hs, ls⟩
      obtain ⟨s', p1, p2⟩ := key i s hs ls
      obtain ⟨t', q1, q2⟩ := key k t ht lt
      exact h3 i k s' t' p1 q1 p2 q2 ek
  · have hr0 : r = [] := List.eq_nil_of_length_eq_zero (by omega)
    subst hr0
    refine ⟨_, B, B, e, Nat.le_refl _, Nat.le_refl _, .inr rfl, ?_, fun h => absurd h hl, fun _ => rfl, fun w' r' hlen hd hm => ?_⟩
    · obtain ⟨a, cap, e1, e2, _⟩ := hat
      exact ⟨a, cap, e1, e2, fun h => absurd h hl⟩
    · have hr1 : r' = [] := List.eq_nil_of_length_eq_zero (by simpa using hlen)
      subst hr1
      rw [show M.set j [] = M from by
        refine List.ext_getElem? fun i => ?_
        by_cases hi : i = j
        · subst hi; rw [List.getElem?_set_self hj, hr]
        · rw [List.getElem?_set_ne (by omega)]]
      exact ⟨h1, G, fun i u s hu hs => (h2 i u s hu hs).block fun _ a _ c => hm.2 _ a c, h3⟩
/-- The rows' slices at the head of block g. -/
def MRow (w : World) (B C g : Nat) (M : List (List Dw)) : Prop :=
  ∃ (cs : Array Value) (vs : List Value), w.heap[g]? = some (.cells cs 57 (0, 0)) ∧ cs.toList.take M.length = vs ∧ RwS w B C vs M
theorem MRow.lt {w : World} {B C g : Nat} {M : List (List Dw)} (h : MRow w B C g M) : g < w.heap.size := by obtain ⟨cs, vs, h1, _⟩ := h; exact lt_of_block h1
theorem MRow.free {w : World} {B C g : Nat} {M : List (List Dw)} (h : MRow w B C g M) (o : Nat) : w.frozen? ⟨g, o, none⟩ = false := by obtain ⟨cs, vs, h1, _⟩ := h; exact free_at h1 o
theorem MRow.block {w w' : World} {B C g : Nat} {M : List (List Dw)} (h : MRow w B C g M) (hg : w'.heap[g]? = w.heap[g]?) (hb : ∀ k, B ≤ k → k < C → k < w.heap.size → w'.heap[k]? = w.heap[k]?) : MRow w' B C g M := by
  obtain ⟨cs, vs, h1, h2, h3⟩ := h
  exact ⟨cs, vs, hg.trans h1, h2, h3.block hb⟩
theorem MRow.mono {w : World} {B C D E g : Nat} {M : List (List Dw)} (h : MRow w B C g M) (h1 : D ≤ B) (h2 : C ≤ E) : MRow w D E g M := by
  obtain ⟨cs, vs, a, b, c⟩ := h
  exact ⟨cs, vs, a, b, c.mono h1 h2⟩
theorem MRow.cell {w : World} {B C g : Nat} {M : List (List Dw)} (h : MRow w B C g M) {j : Nat} {r : List Dw} (hr : M[j]? = some r) :
    ∃ a cap, w.cell? ⟨g, j, none⟩ = some (.slice a r.length cap) ∧ DSc w B C (.slice a r.length cap) r := by
  obtain ⟨cs, vs, h1, h2, h3⟩ := h
  obtain ⟨v, hv, hd⟩ := h3.at hr
  have hj : j < M.length := by
    rcases Nat.lt_or_ge j M.length with k | k
    · exact k
    · rw [List.getElem?_eq_none k] at hr; cases hr
  have hd2 := hd
  obtain ⟨a, cap, rfl, _⟩ := hd2
  refine ⟨a, cap, cell_at h1 _ _ ?_, hd⟩
  rw [← h2, List.getElem?_take, if_pos hj] at hv
  rw [← Array.getElem?_toList]; exact hv
/-- Slot j is given a new row. -/
theorem MRow.put {w w' : World} {B C C' g : Nat} {M : List (List Dw)} (h : MRow w B C g M) {j : Nat} {v : Value} {r : List Dw} (_ : j < M.length) (hv : DSc w' C C' v r) (hB : B ≤ C) (hC : C ≤ C')
    (hb : ∀ k, k < w.heap.size → w'.heap[k]? = w.heap[k]?) : MRow (w'.setCell ⟨g, j, none⟩ v) B C' g (M.set j r) := by
  obtain ⟨cs, vs, h1, h2, h3⟩ := h
  have h1' := (hb g (lt_of_block h1)).trans h1
  refine ⟨_, vs.set j v, heap_set h1' _ _, ?_, ?_⟩
  · rw [List.length_set, ← h2, Array.toList_setIfInBounds, List.take_set]
  · exact (h3.set hv hB hC fun k _ _ c => hb k c).own h1' fun k hk _ => by rw [Below.heap_setCell _ _ _ _ (by show k ≠ g; omega)]
/-- Row j turns in place. -/
theorem MRow.turn {w : World} {B C g : Nat} {M : List (List Dw)} (h : MRow w B C g M) {j : Nat} {r : List Dw} (hr : M[j]? = some r) :
    ∃ a cap b c, w.cell? ⟨g, j, none⟩ = some (.slice a r.length cap) ∧ B ≤ b ∧ b ≤ c ∧ (c ≤ C ∨ c = B) ∧ DSc w b c (.slice a r.length cap) r ∧
      ∀ w' r', r'.length = r.length → DSc w' b c (.slice a r.length cap) r' → Mid b c w w' → MRow w' B C g (M.set j r') := by
  have hcell := h.cell hr
  obtain ⟨cs, vs, h1, h2, h3⟩ := h
  obtain ⟨v, b, c, hv, hB, hbc, hC, hd, hb, hn, hk⟩ := h3.turn hr
  have hj : j < M.length := by
    rcases Nat.lt_or_ge j M.length with k | k
    · exact k
    · rw [List.getElem?_eq_none k] at hr; cases hr
  have hc1 : w.cell? ⟨g, j, none⟩ = some v := by
    refine cell_at h1 _ _ ?_
    rw [← h2, List.getElem?_take, if_pos hj] at hv
    rw [← Array.getElem?_toList]; exact hv
  have hd2 := hd
  obtain ⟨a, cap, rfl, _⟩ := hd2
  refine ⟨a, cap, b, c, hc1, hB, hbc, hC, hd, fun w' r' hlen hd' hm => ⟨cs, vs, ?_, by rw [List.length_set]; exact h2, hk w' r' hlen hd' hm⟩⟩
  rw [← h1]
  by_cases hl : 0 < r.length
  · obtain ⟨rfl, cs', hc'⟩ := hb hl
    have hne : g ≠ b := by
      intro e
      subst e
      rw [h1] at hc'
      injection hc' with hc'
      injection hc' with _ hc'
      exact absurd hc' (by decide)
    rcases Nat.lt_or_ge g b with k | k
    · exact hm.1.block _ k
    · exact hm.2 _ (by omega) (lt_of_block h1)
  · obtain rfl := hn (by omega)
    rcases Nat.lt_or_ge g b with k | k
    · exact hm.1.block _ k
    · exact hm.2 _ k (lt_of_block h1)
/-- A matrix, all its blocks from B up to C. -/
def DSM (w : World) (B C : Nat) (v : Value) (M : List (List Dw)) : Prop :=
  ∃ a cap, v = .slice a M.length cap ∧ M.length ≤ cap ∧ (0 < M.length → ∃ g, a = some ⟨g, 0, none⟩ ∧ B ≤ g ∧ g < C ∧ MRow w B C g M)
theorem DSM.block {w w' : World} {B C : Nat} {v : Value} {M : List (List Dw)} (h : DSM w B C v M) (hb : ∀ k, B ≤ k → k < C → k < w.heap.size → w'.heap[k]? = w.heap[k]?) : DSM w' B C v M := by
  obtain ⟨a, cap, h1, h2, h3⟩ := h
  exact ⟨a, cap, h1, h2, fun hl => by obtain ⟨g, e, hB, hC, hr⟩ := h3 hl; exact ⟨g, e, hB, hC, hr.block (hb g hB hC hr.lt) hb⟩⟩
theorem DSM.below {w w' : World} {B C : Nat} {v : Value} {M : List (List Dw)} (h : DSM w B C v M) (hb : Below w.heap.size w w') : DSM w' B C v M := h.block fun k _ _ hk => hb.block k hk
theorem DSM.mono {w : World} {B C D E : Nat} {v : Value} {M : List (List Dw)} (h : DSM w B C v M) (h1 : D ≤ B) (h2 : C ≤ E) : DSM w D E v M := by
  obtain ⟨a, cap, e1, e2, h3⟩ := h
  exact ⟨a, cap, e1, e2, fun hl => by obtain ⟨g, e, hB, hC, hr⟩ := h3 hl; exact ⟨g, e, by omega, by omega, hr.mono h1 h2⟩⟩
theorem DSM.upto {w : World} {B C : Nat} {v : Value} {M : List (List Dw)} (h : DSM w B C v M) : DSM w B w.heap.size v M := by
  obtain ⟨a, cap, e1, e2, h3⟩ := h
  exact ⟨a, cap, e1, e2, fun hl => by obtain ⟨g, e, hB, hC, cs, vs, r1, r2, r3⟩ := h3 hl; exact ⟨g, e, hB, lt_of_block r1, cs, vs, r1, r2, r3.upto⟩⟩
theorem DSM.nil {w : World} {B C cap : Nat} {a : Option Addr} : DSM w B C (.slice a 0 cap) [] := ⟨_, _, rfl, Nat.zero_le _, fun h => absurd h (by simp)⟩
theorem DSM.of_own {w : World} {B C : Nat} {v : Value} {vs : List Value} {M : List (List Dw)} (h : w.ownsRow B 57 1 v M.length vs) (hr : RwS w B C vs M) (hC : w.heap.size ≤ C) : DSM w B C v M := by
  rcases h.2 with ⟨rfl, h2⟩ | ⟨g, cap, cur, hv, hb, hg, hn, hc, hs, ht⟩
  · exact ⟨none, 0, by rw [h2], by omega, fun h => absurd h (by omega)⟩
  · exact ⟨_, cap, hv, hn, fun _ => ⟨g, rfl, hb, by have := lt_of_block hg; omega, cur, _, hg, by rw [← ht]; simp, hr⟩⟩
theorem Mid.wide {B C D E : Nat} {w w' : World} (h : Mid B C w w') (h1 : D ≤ B) (h2 : C ≤ E ∨ C ≤ D) : Mid D E w w' :=
  ⟨h.1.mono h1, fun b hb hl => by
    rcases h2 with k | k
    · exact h.2 b (by omega) hl
    · rcases Nat.lt_or_ge b B with q | q
      · exact h.1.block b q
      · exact h.2 b (by omega) hl⟩
theorem Mid.trans {B C : Nat} {w w' w2 : World} (h : Mid B C w w') (k : Mid B C w' w2) : Mid B C w w2 :=
  ⟨h.1.trans k.1, fun b hb hl => (k.2 b hb (Nat.lt_of_lt_of_le hl h.1.size)).trans (h.2 b hb hl)⟩
/-- Two rows' slices beside each other. -/
def SP2 (w : World) (g g' j B D : Nat) (x y : Value) (r s : List Dw) (w' : World) : Prop := w'.cell? ⟨g, j, none⟩ = some x ∧ w'.cell? ⟨g', j, none⟩ = some y ∧ g < w'.heap.size ∧ g' < w'.heap.size ∧ Hid (DSl w' B x r) ∧ Hid (DSl w' D y s) ∧ Below w.heap.size w w'
theorem SP2.drew {w w' : World} {g g' j B D : Nat} {x y : Value} {r s : List Dw} (h : SP2 w g g' j B D x y r s w') : SP2 w g g' j B D x y r s w'.drew :=
  let ⟨a, b, z, z', d, e, l⟩ := h; ⟨a, b, z, z', Lib.hid (d.out.block fun _ _ _ => rfl), Lib.hid (e.out.block fun _ _ _ => rfl), l.drew⟩
theorem SP2.below {w w1 w2 : World} {g g' j B D : Nat} {x y : Value} {r s : List Dw} (h : SP2 w g g' j B D x y r s w1) (hb : Below w1.heap.size w1 w2) : SP2 w g g' j B D x y r s w2 :=
  let ⟨a, b, z, z', d, e, l⟩ := h
  ⟨cell_below a hb z, cell_below b hb z', Nat.lt_of_lt_of_le z hb.size, Nat.lt_of_lt_of_le z' hb.size, Lib.hid (d.out.below hb), Lib.hid (e.out.below hb), below_up l hb l.size⟩
theorem SP2.one {w w' : World} {g g' j B D : Nat} {x y : Value} {r s : List Dw} (h : SP2 w g g' j B D x y r s w') : Hid (DSl w' B x r) := h.2.2.2.2.1
theorem SP2.two {w w' : World} {g g' j B D : Nat} {x y : Value} {r s : List Dw} (h : SP2 w g g' j B D x y r s w') : Hid (DSl w' D y s) := h.2.2.2.2.2.1
theorem SP2.low {w w' : World} {g g' j B D : Nat} {x y : Value} {r s : List Dw} (h : SP2 w g g' j B D x y r s w') : Below w.heap.size w w' := let ⟨_, _, _, _, _, _, l⟩ := h; l
/-- The rows stay where the row of their slices grows. -/
theorem RwS.grown {w w4 : World} {B C base n : Nat} {vs xs : List Value} {M : List (List Dw)} {out : Value} (h : RwS w B C vs M) (ho : w.ownsRow base 57 1 out n xs) (hg : w.grownBy w4 out.ownBlock) : RwS w4 B C vs M := by
  obtain ⟨h1, G, h2, h3⟩ := h
  refine ⟨h1, G, fun j v r hv hr => (h2 j v r hv hr).block fun hl _ _ c => hg.block _ c ?_, h3⟩
  intro e
  rcases ho.2 with ⟨rfl, _⟩ | ⟨g, cap, cur, rfl, _, hgb, _⟩
  · cases e
  · have e : g = G j := by have := e; simp [Value.ownBlock] at this; omega
    obtain ⟨_, _, _, _, k⟩ := h2 j v r hv hr
    obtain ⟨_, _, _, cs', hc, _⟩ := k hl
    rw [← e] at hc
    have hc2 := hgb.symm.trans hc
    injection hc2 with hc2
    injection hc2 with _ hc2
    exact absurd hc2 (by decide)
theorem slice_new (w : World) (v : Value) (t : TypeId) : ∀ j u, [v][j]? = some u → (w.alloc (.cells #[v] t)).cell? ((⟨w.heap.size, 0, none⟩ : Addr).add j) = some u := by
  intro j u hj
  match j, hj with
  | 0, hj =>
    injection hj with hj
    subst hj
    exact cell_at (heap_alloc_new w _) 0 _ rfl
theorem ownM_new {w : World} {n : Nat} {t : TypeId} (h : n = w.heap.size) : (w.alloc (.cells #[] t)).ownsRow n t 1 (.slice (some ⟨n, 0, none⟩) 0 0) 0 [] := by
  subst h; exact World.ownsRow_lit w #[] 0 (Nat.le_refl _) (Nat.zero_le _) rfl
end Go.Proofs.YtckfklpgnneodaaGreat
namespace Go.Proofs.YtckfklpgnneodaaGreat
open Go.RowKit
/-- A matrix of the laws' fractions that came in. -/
def MtIn (w : World) (B : Nat) (a0 : Option Addr) (M : List (List Dw)) : Prop :=
  M.length ≤ maxLen ∧ (0 < M.length → ∃ b off, a0 = some ⟨b, off, none⟩ ∧ b < B ∧ ∀ j r, M[j]? = some r → ∃ a cap, w.cell? ⟨b, off + j, none⟩ = some (.slice a r.length cap) ∧ DsIn w B a r)
theorem MtIn.below {w w' : World} {B : Nat} {a0 : Option Addr} {M : List (List Dw)} (h : MtIn w B a0 M) (hb : Below B w w') : MtIn w' B a0 M :=
  ⟨h.1, fun h0 => by
    obtain ⟨b, off, e, hlt, hc⟩ := h.2 h0
    refine ⟨b, off, e, hlt, fun j r hr => ?_⟩
    obtain ⟨a, cap, c0, hd⟩ := hc j r hr
    exact ⟨a, cap, (hb.cell (by exact hlt)).trans c0, hd.below hb⟩⟩
theorem MtIn.mono {w : World} {B C : Nat} {a0 : Option Addr} {M : List (List Dw)} (h : MtIn w B a0 M) (hC : B ≤ C) : MtIn w C a0 M :=
  ⟨h.1, fun h0 => by
    obtain ⟨b, off, e, hlt, hc⟩ := h.2 h0
    refine ⟨b, off, e, by omega, fun j r hr => ?_⟩
    obtain ⟨a, cap, c0, hd⟩ := hc j r hr
    exact ⟨a, cap, c0, hd.mono hC⟩⟩
/-- The exponents of a matrix are machine integers. -/
def EbM (M : List (List Dw)) : Prop := ∀ r ∈ M, Eb r
theorem MtIn.eb {w : World} {B : Nat} {a0 : Option Addr} {M : List (List Dw)} (h : MtIn w B a0 M) : EbM M := by
  intro r hr
  obtain ⟨j, hj⟩ := List.getElem?_of_mem hr
  have h0 : 0 < M.length := by
    rcases Nat.eq_zero_or_pos M.length with k | k
    · rw [List.eq_nil_of_length_eq_zero k] at hj; simp at hj
    · exact k
  obtain ⟨b, off, e, hlt, hc⟩ := h.2 h0
  obtain ⟨a, cap, _, hd⟩ := hc j r hj
  exact hd.eb
/-- The amplitudes of a matrix. -/
def amps (M : List (List Dw)) : Nat := (M.map List.length).sum
theorem amps_step {M : List (List Dw)} {j : Nat} {r : List Dw} (hr : M[j]? = some r) : amps (M.take (j + 1)) = amps (M.take j) + r.length := by
  unfold amps
  rw [List.take_add_one, hr]
  simp
theorem amps_le {M : List (List Dw)} (j : Nat) : amps (M.take j) ≤ amps M := by
  unfold amps
  conv => rhs; rw [← List.take_append_drop j M, List.map_append, List.sum_append]
  omega
theorem amps_row {M : List (List Dw)} {j : Nat} {r : List Dw} (hr : M[j]? = some r) : r.length ≤ amps M := by
  have h1 := amps_step hr
  have h2 := amps_le (M := M) (j + 1)
  omega
theorem infoDs : (Tryz.prog.info? 57).map (fun i => (i.zero, i.size, i.bytes)) = some (some (.slice none 0 0), 1, 24) := by kernel_rfl
theorem made_slices (n : Nat) : (madeCells #[.slice none 0 0] (n * 1)).toList = List.replicate n (.slice none 0 0) := by
  induction n with
  | zero => simp [madeCells]
  | succ n ih =>
    rw [List.replicate_succ', ← ih, show (n + 1) * 1 = n * 1 + 1 by omega]
    simp only [madeCells, Array.toList_map, Array.toList_range, List.range_succ, List.map_append, List.map_cons, List.map_nil]
    congr 1
    simp [Nat.mod_one]
theorem rows_nil {w : World} {B C n : Nat} : RwS w B C (List.replicate n (.slice none 0 0)) (List.replicate n []) := by
  refine ⟨by simp, fun _ => 0, fun j v r hv hr => ?_, fun i j r s hr _ ls _ _ => ?_⟩
  · rw [List.getElem?_replicate] at hv hr
    split at hv
    · split at hr
      · injection hv with hv; injection hr with hr; subst hv hr
        exact ⟨none, 0, rfl, Nat.le_refl _, fun h => absurd h (by simp)⟩
      · omega
    · cases hv
  · rw [List.getElem?_replicate] at hr
    split at hr
    · injection hr with hr; subst hr; simp at ls
    · cases hr
theorem halfM_at {M : List (List Dw)} {j : Nat} (h : j < M.length) : (M.take j ++ List.replicate (M.length - j) ([] : List Dw))[j]? = some [] := by
  rw [List.getElem?_append_right (by simp; omega), List.getElem?_replicate, if_pos (by simp; omega)]
theorem halfM_set {M : List (List Dw)} {j : Nat} {r : List Dw} (hr : M[j]? = some r) : (M.take j ++ List.replicate (M.length - j) []).set j r = M.take (j + 1) ++ List.replicate (M.length - (j + 1)) [] := by
  have h : j < M.length := by
    rcases Nat.lt_or_ge j M.length with h' | h'
    · exact h'
    · rw [List.getElem?_eq_none h'] at hr; cases hr
  rw [List.set_append_right _ _ (by simp; omega), List.take_add_one, hr]
  rw [show M.length - j = (M.length - (j + 1)) + 1 by omega, List.replicate_succ, show j - (M.take j).length = 0 by simp; omega]
  simp
attribute [local irreducible] World.cell?
end Go.Proofs.YtckfklpgnneodaaGreat
namespace Go.Proofs.YtckfklpgnneodaaGreat
open Go.RowKit
attribute [local irreducible] World.cell?
theorem eq_takeM {a b : List (List Dw)} {j : Nat} {x y : List Dw} (hx : a[j]? = some x) (hy : b[j]? = some y) (h : a.take j = b.take j) (hxy : x = y) : a.take (j + 1) = b.take (j + 1) := by
  rw [List.take_add_one, List.take_add_one, h, hx, hy, hxy]
set_option maxRecDepth 100000 in
set_option maxHeartbeats 1600000 in
theorem sequalMt (B C D E : Nat) (v u : Value) (M N : List (List Dw)) (w : World) (hv : DSM w B C v M) (hu : DSM w D E u N) (hn : M.length ≤ 1048576) (_ : N.length ≤ 1048576) (hm : amps M ≤ 1048576) (hm' : amps N ≤ 1048576) :
    Calls Tryz.prog 13 #[v, u] w fun e w' => e = .returned (.bool (decide (M = N))) ∧ Below w.heap.size w w' := by
  obtain ⟨a, cap, rfl, hcap, hr⟩ := hv
  obtain ⟨a', cap', rfl, hcap', hr'⟩ := hu
  have Hr := Lib.hid hr
  have Hr' := Lib.hid hr'
  clear hr hr'
  by_cases hl : M.length = N.length
  · obtain ⟨R, hR⟩ : ∃ R, R = decide (M = N) := ⟨_, rfl⟩
    rw [← hR]
    have HR := Lib.hid hR
    clear hR
    rw [← hl] at Hr' hcap' ⊢
    have Hl := Lib.hid hl
    clear hl
    have hd2 : ((M.length : Int) != M.length) = false := by simp
    go_enter Tryz.func13, Tryz.ntmps13
    go_wp2_with fail
    go_loopg [5] M.length (fun k i wr => ∃ j : Nat, k = M.length - j ∧ j ≤ M.length ∧ i = .int .i64 j ∧ Hid (M.take j = N.take j) ∧ Hid (Below w.heap.size w wr))
    case atStart => exact ⟨0, rfl, Nat.zero_le _, rfl, rfl, Below.refl _ _⟩
    case round =>
      obtain ⟨j, rfl, hj, rfl, Heq, Hb⟩ := hrel
      by_cases hlt : j < M.length
      · obtain ⟨g, rfl, _, _, hrow⟩ := Hr.out (by omega)
        obtain ⟨g', rfl, _, _, hrow'⟩ := Hr'.out (by omega)
        obtain ⟨x, hx⟩ : ∃ r, M[j]? = some r := ⟨M[j], List.getElem?_eq_getElem hlt⟩
        obtain ⟨y, hy⟩ : ∃ r, N[j]? = some r := ⟨N[j]'(by have := Hl.out; omega), List.getElem?_eq_getElem _⟩
        have r1 := hrow.block (Hb.out.block _ hrow.lt) fun k _ _ hk => Hb.out.block k hk
        have r2 := hrow'.block (Hb.out.block _ hrow'.lt) fun k _ _ hk => Hb.out.block k hk
        obtain ⟨p, pc, c0, hd1⟩ := r1.cell hx
        obtain ⟨q, qc, c1, hd2⟩ := r2.cell hy
        have hgl := r1.lt
        have hgl' := r2.lt
        have Hx := Lib.hid hx
        have Hy := Lib.hid hy
        have He := Lib.hid (fun W (h1 : Hid (DSl W B (.slice p x.length pc) x)) (h2 : Hid (DSl W D (.slice q y.length qc) y)) => sequalSt B D (.slice p x.length pc) (.slice q y.length qc) x y W h1.out h2.out (by have := amps_row hx; omega) (by have := amps_row hy; omega))
        have Hd1 := Lib.hid hd1.dsl
        have Hd2 := Lib.hid hd2.dsl
        have hS : SP2 w g g' j B D (.slice p x.length pc) (.slice q y.length qc) x y wr := ⟨c0, c1, hgl, hgl', Hd1, Hd2, Hb.out⟩
        clear hd1 hd2 r1 r2 hrow hrow' hx hy
        by_cases hxy : x = y
        · rw [decide_eq_true hxy] at He
          have Hxy := Lib.hid hxy
          clear hxy
          go_upto_region 6 with fail
          go_region_held3 (fun w' => w'.cell? ⟨g, j, none⟩ = some (.slice p x.length pc) ∧ w'.cell? ⟨g', j, none⟩ = some (.slice q y.length qc) ∧ g < w'.heap.size ∧ g' < w'.heap.size ∧ Hid (DSl w' B (.slice p x.length pc) x) ∧ Hid (DSl w' D (.slice q y.length qc) y) ∧ Below w.heap.size w w') (first | (show SP2 w g g' j B D (.slice p x.length pc) (.slice q y.length qc) x y _; (with_reducible exact hS.drew)) | (show SP2 w g g' j B D (.slice p x.length pc) (.slice q y.length qc) x y _; (with_reducible refine SP2.below ?_ hbR); first | assumption | exact ⟨by assumption, by assumption, by assumption, by assumption, by assumption, by assumption, by assumption⟩))
            (first | (go_at_call 26; (with_reducible refine (He.out _ hS.drew.one hS.drew.two).mono ?_); rintro e wR ⟨rfl, hbR⟩))
          have Hb2 := Lib.hid (below_up Hb.out.drew hbR Hb.out.size)
          go_wp2_with fail
          go_roundg (M.length - (j + 1))
          case measure => omega
          case rel => exact ⟨j + 1, rfl, by omega, by go_num, Lib.hid (eq_takeM Hx.out Hy.out Heq.out Hxy.out), Hb2⟩
        · rw [decide_eq_false hxy] at He
          have hF : M ≠ N := fun h => hxy (by have h1 := Hx.out; rw [h, Hy.out] at h1; injection h1 with h1; exact h1.symm)
          obtain rfl : R = false := HR.out.trans (decide_eq_false hF)
          clear hF hxy
          go_upto_region 6 with fail
          go_region_held3 (fun w' => w'.cell? ⟨g, j, none⟩ = some (.slice p x.length pc) ∧ w'.cell? ⟨g', j, none⟩ = some (.slice q y.length qc) ∧ g < w'.heap.size ∧ g' < w'.heap.size ∧ Hid (DSl w' B (.slice p x.length pc) x) ∧ Hid (DSl w' D (.slice q y.length qc) y) ∧ Below w.heap.size w w') (first | (show SP2 w g g' j B D (.slice p x.length pc) (.slice q y.length qc) x y _; (with_reducible exact hS.drew)) | (show SP2 w g g' j B D (.slice p x.length pc) (.slice q y.length qc) x y _; (with_reducible refine SP2.below ?_ hbR); first | assumption | exact ⟨by assumption, by assumption, by assumption, by assumption, by assumption, by assumption, by assumption⟩))
            (first | (go_at_call 26; (with_reducible refine (He.out _ hS.drew.one hS.drew.two).mono ?_); rintro e wR ⟨rfl, hbR⟩))
          have Hb2 := Lib.hid (below_up Hb.out.drew hbR Hb.out.size)
          go_wp2_with fail
          go_ret
          exact ⟨rfl, Hb2.out⟩
      · obtain rfl : j = M.length := by omega
        have heq := Heq.out
        rw [List.take_length, Hl.out, List.take_length] at heq
        obtain rfl : R = true := HR.out.trans (decide_eq_true heq)
        go_wp2_with fail
        go_ret
        exact ⟨rfl, Hb.out⟩
  · rw [decide_eq_false (fun h => hl (by rw [h]))]
    have hd2 : ((M.length : Int) != N.length) = true := by simp; omega
    go_enter Tryz.func13, Tryz.ntmps13
    go_wp2_with fail
    go_ret
    exact ⟨rfl, Below.refl _ _⟩
end Go.Proofs.YtckfklpgnneodaaGreat
namespace Go.Proofs.YtckfklpgnneodaaGreat
open Go.RowKit
/-- A slice of integers that came in. -/
def IsIn (w : World) (B : Nat) (a0 : Option Addr) (l : List Int) : Prop :=
  l.length ≤ maxLen ∧ (∀ x ∈ l, -9223372036854775808 ≤ x ∧ x ≤ 9223372036854775807) ∧
  (0 < l.length → ∃ b off, a0 = some ⟨b, off, none⟩ ∧ b < B ∧ ∀ j x, l[j]? = some x → w.cell? ⟨b, off + j, none⟩ = some (.int .i64 x))
theorem IsIn.below {w w' : World} {B : Nat} {a0 : Option Addr} {l : List Int} (h : IsIn w B a0 l) (hb : Below B w w') : IsIn w' B a0 l :=
  ⟨h.1, h.2.1, fun h0 => by
    obtain ⟨b, off, e, hlt, hc⟩ := h.2.2 h0
    exact ⟨b, off, e, hlt, fun j x hx => (hb.cell (by exact hlt)).trans (hc j x hx)⟩⟩
theorem IsIn.mono {w : World} {B C : Nat} {a0 : Option Addr} {l : List Int} (h : IsIn w B a0 l) (hC : B ≤ C) : IsIn w C a0 l :=
  ⟨h.1, h.2.1, fun h0 => by obtain ⟨b, off, e, hlt, hc⟩ := h.2.2 h0; exact ⟨b, off, e, by omega, hc⟩⟩
attribute [local irreducible] World.cell?
end Go.Proofs.YtckfklpgnneodaaGreat
namespace Go.Proofs.YtckfklpgnneodaaGreat
open Go.ChangeShapes Go.WideShapes Go.ChangeAt Go.RowKit Go.Lib Go.Joins
open Go.RowKit
end Go.Proofs.YtckfklpgnneodaaGreat
namespace Go.Proofs.YtckfklpgnneodaaGreat
open Go.RowKit
attribute [local irreducible] World.cell?
end Go.Proofs.YtckfklpgnneodaaGreat
namespace Go.Proofs.YtckfklpgnneodaaGreat
theorem root_zero : Zw.zero.root = Zw.zero := by decide
theorem rootN_zero : ∀ k : Nat, rootN k Zw.zero = Zw.zero
  | 0 => rfl
  | k + 1 => by rw [rootN, root_zero]; exact rootN_zero k
theorem upB_zero : ∀ k : Nat, upB k Zw.zero = true
  | 0 => rfl
  | k + 1 => by rw [upB, root_zero, upB_zero k]; decide
theorem red_zero : ∀ k : Nat, red k Zw.zero = (Zw.zero, 0)
  | 0 => rfl
  | k + 1 => by rw [red, if_pos (by decide), show divV Zw.zero = Zw.zero by decide]; exact red_zero k
theorem mul_zeroZ (x : Zw) : x.mul .zero = .zero := by simp [Zw.mul, Zw.zero]
theorem add_zeroZ (x : Zw) : x.add .zero = x := by simp [Zw.add, Zw.zero]
theorem new_zero {k : Int} (h0 : 0 ≤ k) (h1 : k ≤ 120) : newB .zero k = true ∧ newV .zero k = .zero := by
  have hb : newB .zero k = true := newB_iff.2 ⟨by decide, h0, h1, by rw [red_zero]; exact Nat.zero_le _⟩
  exact ⟨hb, by rw [newV_of hb, red_zero]; rfl⟩
theorem dmul_zero {x : Dw} (h : x.ok) : dMulB x .zero = true ∧ dMulV x .zero = .zero := by
  have hn := new_zero (k := x.e + Dw.zero.e) (by show 0 ≤ x.e + 0; have := h.2; omega) (by show x.e + 0 ≤ 120; have := h.2; omega)
  have hm : x.n.mul Dw.zero.n = .zero := mul_zeroZ x.n
  have hb : dMulB x .zero = true := dMulB_iff.2 ⟨h, zero_ok, mulB_iff.2 ⟨h.1, by decide, by rw [hm]; decide⟩, by rw [hm]; exact hn.1⟩
  exact ⟨hb, by rw [dMulV_of hb, hm]; exact hn.2⟩
theorem dzero_mul {x : Dw} (h : x.ok) : dMulB .zero x = true ∧ dMulV .zero x = .zero := by
  rw [dMulB_comm x .zero, dMulV_comm x .zero]
  exact dmul_zero h
theorem dadd_zeroK {s : Dw} (h : s.ok) : dAddB s .zero = true ∧ dAddV s .zero = s := by
  have ht : topE s .zero = s.e := by
    have := h.2
    unfold topE
    show (if (0 : Int) < s.e then s.e else 0) = s.e
    split <;> omega
  have ha : numA s .zero = s.n := by unfold numA; rw [ht, Int.sub_self]; rfl
  have hb : numB s .zero = .zero := by unfold numB; exact rootN_zero _
  have hs := newV_self h
  have e : dAddB s .zero = true := dAddB_iff.2 ⟨h, zero_ok, by rw [ht, Int.sub_self]; rfl, upB_zero _, by rw [ha, hb]; exact addB_iff.2 ⟨h.1, by decide, by rw [add_zeroZ]; exact h.1⟩, by rw [ha, hb, add_zeroZ, ht]; exact hs.1⟩
  exact ⟨e, by rw [dAddV_of e, ha, hb, add_zeroZ, ht]; exact hs.2⟩
end Go.Proofs.YtckfklpgnneodaaGreat
