/- Matrices in memory: slices of slices of fractions. -/
import Derived.Test.YtlmiebeffdcfhaaGreatUBaseB18
import Derived.Test.YtlmiebeffdcfhaaGreatUBaseB12
namespace Go.Proofs.YtlmiebeffdcfhaaGreat
open Go.RowKit
/-- A slice whose row, if it has one, lies in block n, from B up to C. -/
def RowAt (w : World) (B C n : Nat) (v : Value) (r : List Dw) : Prop :=
  ∃ a cap, v = .slice a r.length cap ∧ r.length ≤ cap ∧ (0 < r.length → a = some ⟨n, 0, none⟩ ∧ B ≤ n ∧ n < C ∧ DRow w n r)
theorem RowAt.dsc2 {w : World} {B C n : Nat} {v : Value} {r : List Dw} (h : RowAt w B C n v r) : DSc w B C v r := by
  obtain ⟨a, cap, h1, h2, h3⟩ := h
  exact ⟨a, cap, h1, h2, fun hl => by obtain ⟨e, hB, hC, hr⟩ := h3 hl; exact ⟨n, e, hB, hC, hr⟩⟩
theorem RowAt.block {w w' : World} {B C n : Nat} {v : Value} {r : List Dw} (h : RowAt w B C n v r) (hb : 0 < r.length → B ≤ n → n < C → n < w.heap.size → w'.heap[n]? = w.heap[n]?) : RowAt w' B C n v r := by
  obtain ⟨a, cap, h1, h2, h3⟩ := h
  exact ⟨a, cap, h1, h2, fun hl => by obtain ⟨e, hB, hC, hr⟩ := h3 hl; exact ⟨e, hB, hC, hr.block (hb hl hB hC hr.lt)⟩⟩
theorem RowAt.mono {w : World} {B C D E n : Nat} {v : Value} {r : List Dw} (h : RowAt w B C n v r) (h1 : D ≤ B) (h2 : C ≤ E) : RowAt w D E n v r := by
  obtain ⟨a, cap, e1, e2, h3⟩ := h
  exact ⟨a, cap, e1, e2, fun hl => by obtain ⟨e, hB, hC, hr⟩ := h3 hl; exact ⟨e, by omega, by omega, hr⟩⟩
theorem DSc.rowAt {w : World} {B C : Nat} {v : Value} {r : List Dw} (h : DSc w B C v r) : ∃ n, RowAt w B C n v r := by
  obtain ⟨a, cap, h1, h2, h3⟩ := h
  by_cases hl : 0 < r.length
  · obtain ⟨g, e, hB, hC, hr⟩ := h3 hl
    exact ⟨g, a, cap, h1, h2, fun _ => ⟨e, hB, hC, hr⟩⟩
  · exact ⟨0, a, cap, h1, h2, fun h => absurd h hl⟩
/-- The rows' slices, each row in a block of its own. -/
def RwS (w : World) (B C : Nat) (vs : List Value) (M : List (List Dw)) : Prop :=
  vs.length = M.length ∧ ∃ G : Nat → Nat, (∀ j v r, vs[j]? = some v → M[j]? = some r → RowAt w B C (G j) v r) ∧
    (∀ i j r s, M[i]? = some r → M[j]? = some s → 0 < r.length → 0 < s.length → G i = G j → i = j)
theorem RwS.nil {w : World} {B C : Nat} : RwS w B C [] [] := ⟨rfl, fun _ => 0, fun j v r h => by simp at h, fun i j r s h => by simp at h⟩
theorem RwS.block {w w' : World} {B C : Nat} {vs : List Value} {M : List (List Dw)} (h : RwS w B C vs M) (hb : ∀ k, B ≤ k → k < C → k < w.heap.size → w'.heap[k]? = w.heap[k]?) : RwS w' B C vs M := by
  obtain ⟨h1, G, h2, h3⟩ := h
  exact ⟨h1, G, fun j v r hv hr => (h2 j v r hv hr).block fun _ a b c => hb _ a b c, h3⟩
/-- The rows stay where a block that holds no row of fractions turns. -/
theorem RwS.own {w w' : World} {B C g : Nat} {vs : List Value} {M : List (List Dw)} {cs : Array Value} (h : RwS w B C vs M) (hg : w.heap[g]? = some (.cells cs 59 (0, 0)))
    (hb : ∀ k, k ≠ g → k < w.heap.size → w'.heap[k]? = w.heap[k]?) : RwS w' B C vs M := by
  obtain ⟨h1, G, h2, h3⟩ := h
  refine ⟨h1, G, fun j v r hv hr => (h2 j v r hv hr).block fun hl _ _ c => hb _ ?_ c, h3⟩
  intro e
  obtain ⟨_, _, _, _, k⟩ := h2 j v r hv hr
  obtain ⟨_, _, _, cs', hc, _⟩ := k hl
  rw [e, hg] at hc
  injection hc with hc
  injection hc with _ hc
  exact absurd hc (by decide)
theorem RwS.mono {w : World} {B C D E : Nat} {vs : List Value} {M : List (List Dw)} (h : RwS w B C vs M) (h1 : D ≤ B) (h2 : C ≤ E) : RwS w D E vs M := by
  obtain ⟨a, G, b, c⟩ := h
  exact ⟨a, G, fun j v r hv hr => (b j v r hv hr).mono h1 h2, c⟩
theorem RwS.upto {w : World} {B C : Nat} {vs : List Value} {M : List (List Dw)} (h : RwS w B C vs M) : RwS w B w.heap.size vs M := by
  obtain ⟨a, G, b, c⟩ := h
  refine ⟨a, G, fun j v r hv hr => ?_, c⟩
  obtain ⟨p, cap, e1, e2, e3⟩ := b j v r hv hr
  exact ⟨p, cap, e1, e2, fun hl => by obtain ⟨e, hB, _, hr⟩ := e3 hl; exact ⟨e, hB, hr.lt, hr⟩⟩
theorem RwS.at {w : World} {B C : Nat} {vs : List Value} {M : List (List Dw)} (h : RwS w B C vs M) {j : Nat} {r : List Dw} (hr : M[j]? = some r) : ∃ v, vs[j]? = some v ∧ DSc w B C v r := by
  obtain ⟨h1, G, h2, h3⟩ := h
  have hj : j < M.length := by
    rcases Nat.lt_or_ge j M.length with k | k
    · exact k
    · rw [List.getElem?_eq_none k] at hr; cases hr
  have e : vs[j]? = some (vs[j]'(by omega)) := List.getElem?_eq_getElem _
  exact ⟨_, e, (h2 j _ r e hr).dsc2⟩
/-- A new row takes the place of row j. -/
theorem RwS.set {w w' : World} {B C C' : Nat} {vs : List Value} {M : List (List Dw)} (h : RwS w B C vs M) {j : Nat} {v : Value} {r : List Dw} (hv : DSc w' C C' v r) (hB : B ≤ C) (hC : C ≤ C')
    (hb : ∀ k, B ≤ k → k < C → k < w.heap.size → w'.heap[k]? = w.heap[k]?) : RwS w' B C' (vs.set j v) (M.set j r) := by
  obtain ⟨h1, G, h2, h3⟩ := h
  obtain ⟨n, hn⟩ := hv.rowAt
  refine ⟨by simp [h1], fun i => if i = j then n else G i, fun i u s hu hs => ?_, fun i k s t hs ht ls lt e => ?_⟩
  · by_cases hi : i = j
    · subst hi
      have hl : i < vs.length := by
        rcases Nat.lt_or_ge i vs.length with k | k
        · exact k
        · rw [List.getElem?_eq_none (by simpa using k)] at hu; cases hu
      rw [List.getElem?_set_self hl] at hu
      rw [List.getElem?_set_self (by omega)] at hs
      injection hu with hu; injection hs with hs
      subst hu hs
      simpa using hn.mono hB (Nat.le_refl _)
    · rw [List.getElem?_set_ne (by omega)] at hu
      rw [List.getElem?_set_ne (by omega)] at hs
      simp only [hi, if_false]
      exact ((h2 i u s hu hs).block fun _ a b c => hb _ a b c).mono (Nat.le_refl _) hC
  · have key : ∀ (i : Nat) (s : List Dw), i ≠ j → M[i]? = some s → 0 < s.length → G i < C := fun i s hi hs ls => by
      have hl : i < M.length := by
        rcases Nat.lt_or_ge i M.length with k | k
        · exact k
        · rw [List.getElem?_eq_none k] at hs; cases hs
      have e : vs[i]? = some (vs[i]'(by omega)) := List.getElem?_eq_getElem _
      obtain ⟨_, _, _, _, q⟩ := h2 i _ s e hs
      exact (q ls).2.2.1
    have self : ∀ (t : List Dw), (M.set j r)[j]? = some t → 0 < t.length → C ≤ n := fun t ht lt => by
      have hl : j < M.length := by
        rcases Nat.lt_or_ge j M.length with k | k
        · exact k
        · rw [List.getElem?_eq_none (by simpa using k)] at ht; cases ht
      rw [List.getElem?_set_self hl] at ht
      injection ht with ht
      subst ht
      obtain ⟨_, _, _, _, q⟩ := hn
      exact (q lt).2.1
    by_cases hi : i = j <;> by_cases hk : k = j
    · omega
    · exfalso
      simp only [hi, hk, if_true, if_false] at e
      rw [hi] at hs
      rw [List.getElem?_set_ne (by omega)] at ht
      have := key k t hk ht lt
      have := self s hs ls
      omega
    · exfalso
      simp only [hi, hk, if_true, if_false] at e
      rw [hk] at ht
      rw [List.getElem?_set_ne (by omega)] at hs
      have := key i s hi hs ls
      have := self t ht lt
      omega
    · simp only [hi, hk, if_false] at e
      rw [List.getElem?_set_ne (by omega)] at hs ht
      exact h3 i k s t hs ht ls lt e
/-- A new row behind the others. -/
theorem RwS.snoc {w w' : World} {B C C' : Nat} {vs : List Value} {M : List (List Dw)} (h : RwS w B C vs M) {v : Value} {r : List Dw} (hv : DSc w' C C' v r) (hB : B ≤ C) (hC : C ≤ C')
    (hb : ∀ k, B ≤ k → k < C → k < w.heap.size → w'.heap[k]? = w.heap[k]?) : RwS w' B C' (vs ++ [v]) (M ++ [r]) := by
  have hl := h.1
  have h0 : RwS w B C (vs ++ [.slice none 0 0]) (M ++ [[]]) := by
    obtain ⟨h1, G, h2, h3⟩ := h
    refine ⟨by simp [h1], G, fun j u s hu hs => ?_, fun i k s t hs ht ls lt e => ?_⟩
    · by_cases hj : j < M.length
      · rw [List.getElem?_append_left (by omega)] at hu
        rw [List.getElem?_append_left hj] at hs
        exact h2 j u s hu hs
      · rw [List.getElem?_append_right (by omega)] at hu
        rw [List.getElem?_append_right (by omega)] at hs
        by_cases hj2 : j - M.length = 0
        · rw [hj2] at hs
          rw [h1, hj2] at hu
          simp at hu hs
          subst hu hs
          exact ⟨none, 0, rfl, Nat.le_refl _, fun h => absurd h (by simp)⟩
        · rw [List.getElem?_eq_none (by simp; omega)] at hs; cases hs
    · have key : ∀ (i : Nat) (s : List Dw), (M ++ [[]])[i]? = some s → 0 < s.length → M[i]? = some s := fun i s hs ls => by
        by_cases hj : i < M.length
        · rwa [List.getElem?_append_left hj] at hs
        · rw [List.getElem?_append_right (by omega)] at hs
          by_cases hj2 : i - M.length = 0
          · rw [hj2] at hs; simp at hs; subst hs; simp at ls
          · rw [List.getElem?_eq_none (by simp; omega)] at hs; cases hs
      exact h3 i k s t (key i s hs ls) (key k t ht lt) ls lt e
  have h4 := h0.set (j := M.length) hv hB hC hb
  rw [List.set_append_right _ _ (by omega), List.set_append_right _ _ (by omega)] at h4
  simpa [hl] using h4
/-- A row turns in place, its length stays. -/
theorem RwS.turn {w : World} {B C : Nat} {vs : List Value} {M : List (List Dw)} (h : RwS w B C vs M) {j : Nat} {r : List Dw} (hr : M[j]? = some r) :
    ∃ v b c, vs[j]? = some v ∧ B ≤ b ∧ b ≤ c ∧ (c ≤ C ∨ c = B) ∧ DSc w b c v r ∧ (0 < r.length → c = b + 1 ∧ ∃ cs, w.heap[b]? = some (.cells cs 70 (0, 0))) ∧ (r.length = 0 → b = c) ∧
      ∀ w' r', r'.length = r.length → DSc w' b c v r' → Mid b c w w' → RwS w' B C vs (M.set j r') := by
  obtain ⟨h1, G, h2, h3⟩ := h
  have hj : j < M.length := by
    rcases Nat.lt_or_ge j M.length with k | k
    · exact k
    · rw [List.getElem?_eq_none k] at hr; cases hr
  have e : vs[j]? = some (vs[j]'(by omega)) := List.getElem?_eq_getElem _
  have hat := h2 j _ r e hr
  by_cases hl : 0 < r.length
  · obtain ⟨a, cap, e1, e2, e3⟩ := hat
    obtain ⟨ea, hB, hC, hrow⟩ := e3 hl
    refine ⟨_, G j, G j + 1, e, hB, by omega, .inl hC, ⟨a, cap, e1, e2, fun _ => ⟨_, ea, Nat.le_refl _, Nat.lt_succ_self _, hrow⟩⟩, fun _ => ⟨rfl, by obtain ⟨cs, hc, _⟩ := hrow; exact ⟨cs, hc⟩⟩, fun h => absurd h (by omega), fun w' r' hlen hd hm => ?_⟩
    refine ⟨by simp [h1], G, fun i u s hu hs => ?_, fun i k s t hs ht ls lt ek => ?_⟩
    · by_cases hi : i = j
      · subst hi
        rw [List.getElem?_set_self hj] at hs
        injection hs with hs
        subst hs
        rw [e] at hu
        injection hu with hu
        subst hu
        obtain ⟨a', cap', f1, f2, f3⟩ := hd
        refine ⟨a', cap', f1, f2, fun hl' => ?_⟩
        obtain ⟨g', f4, f5, f6, f7⟩ := f3 hl'
        obtain rfl : g' = G i := by omega
        exact ⟨f4, hB, hC, f7⟩
      · rw [List.getElem?_set_ne (by omega)] at hs
        refine (h2 i u s hu hs).block fun ls _ _ c => ?_
        have hne : G i ≠ G j := fun k => hi (h3 i j s r hs hr ls hl k)
        rcases Nat.lt_or_ge (G i) (G j) with k | k
        · exact hm.1.block _ k
        · exact hm.2 _ (by omega) c
    · have key : ∀ (i : Nat) (s : List Dw), (M.set j r')[i]? = some s → 0 < s.length → ∃ s' : List Dw, M[i]? = some s' ∧ 0 < s'.length := fun i s hs ls => by
        by_cases hi : i = j
        · subst hi
          rw [List.getElem?_set_self hj] at hs
          injection hs with hs
          exact ⟨r, hr, hl⟩
        · rw [List.getElem?_set_ne (by omega)] at hs
          exact ⟨s, hs, ls⟩
      obtain ⟨s', p1, p2⟩ := key i s hs ls
      obtain ⟨t', q1, q2⟩ := key k t ht lt
      exact h3 i k s' t' p1 q1 p2 q2 ek
  · have hr0 : r = [] := List.eq_nil_of_length_eq_zero (by omega)
    subst hr0
    refine ⟨_, B, B, e, Nat.le_refl _, Nat.le_refl _, .inr rfl, ?_, fun h => absurd h hl, fun _ => rfl, fun w' r' hlen hd hm => ?_⟩
    · obtain ⟨a, cap, e1, e2, _⟩ := hat
      exact ⟨a, cap, e1, e2, fun h => absurd h hl⟩
    · have hr1 : r' = [] := List.eq_nil_of_length_eq_zero (by simpa using hlen)
      subst hr1
      rw [show M.set j [] = M from by
        refine List.ext_getElem? fun i => ?_
        by_cases hi : i = j
        · subst hi; rw [List.getElem?_set_self hj, hr]
        · rw [List.getElem?_set_ne (by omega)]]
      exact ⟨h1, G, fun i u s hu hs => (h2 i u s hu hs).block fun _ a _ c => hm.2 _ a c, h3⟩
/-- The rows' slices at the head of block g. -/
def MRow (w : World) (B C g : Nat) (M : List (List Dw)) : Prop :=
  ∃ (cs : Array Value) (vs : List Value), w.heap[g]? = some (.cells cs 59 (0, 0)) ∧ cs.toList.take M.length = vs ∧ RwS w B C vs M
theorem MRow.lt {w : World} {B C g : Nat} {M : List (List Dw)} (h : MRow w B C g M) : g < w.heap.size := by obtain ⟨cs, vs, h1, _⟩ := h; exact lt_of_block h1
theorem MRow.free {w : World} {B C g : Nat} {M : List (List Dw)} (h : MRow w B C g M) (o : Nat) : w.frozen? ⟨g, o, none⟩ = false := by obtain ⟨cs, vs, h1, _⟩ := h; exact free_at h1 o
theorem MRow.block {w w' : World} {B C g : Nat} {M : List (List Dw)} (h : MRow w B C g M) (hg : w'.heap[g]? = w.heap[g]?) (hb : ∀ k, B ≤ k → k < C → k < w.heap.size → w'.heap[k]? = w.heap[k]?) : MRow w' B C g M := by
  obtain ⟨cs, vs, h1, h2, h3⟩ := h
  exact ⟨cs, vs, hg.trans h1, h2, h3.block hb⟩
theorem MRow.mono {w : World} {B C D E g : Nat} {M : List (List Dw)} (h : MRow w B C g M) (h1 : D ≤ B) (h2 : C ≤ E) : MRow w D E g M := by
  obtain ⟨cs, vs, a, b, c⟩ := h
  exact ⟨cs, vs, a, b, c.mono h1 h2⟩
theorem MRow.cell {w : World} {B C g : Nat} {M : List (List Dw)} (h : MRow w B C g M) {j : Nat} {r : List Dw} (hr : M[j]? = some r) :
    ∃ a cap, w.cell? ⟨g, j, none⟩ = some (.slice a r.length cap) ∧ DSc w B C (.slice a r.length cap) r := by
  obtain ⟨cs, vs, h1, h2, h3⟩ := h
  obtain ⟨v, hv, hd⟩ := h3.at hr
  have hj : j < M.length := by
    rcases Nat.lt_or_ge j M.length with k | k
    · exact k
    · rw [List.getElem?_eq_none k] at hr; cases hr
  have hd2 := hd
  obtain ⟨a, cap, rfl, _⟩ := hd2
  refine ⟨a, cap, cell_at h1 _ _ ?_, hd⟩
  rw [← h2, List.getElem?_take, if_pos hj] at hv
  rw [← Array.getElem?_toList]; exact hv
/-- Slot j is given a new row. -/
theorem MRow.put {w w' : World} {B C C' g : Nat} {M : List (List Dw)} (h : MRow w B C g M) {j : Nat} {v : Value} {r : List Dw} (_ : j < M.length) (hv : DSc w' C C' v r) (hB : B ≤ C) (hC : C ≤ C')
    (hb : ∀ k, k < w.heap.size → w'.heap[k]? = w.heap[k]?) : MRow (w'.setCell ⟨g, j, none⟩ v) B C' g (M.set j r) := by
  obtain ⟨cs, vs, h1, h2, h3⟩ := h
  have h1' := (hb g (lt_of_block h1)).trans h1
  refine ⟨_, vs.set j v, heap_set h1' _ _, ?_, ?_⟩
  · rw [List.length_set, ← h2, Array.toList_setIfInBounds, List.take_set]
  · exact (h3.set hv hB hC fun k _ _ c => hb k c).own h1' fun k hk _ => by rw [Below.heap_setCell _ _ _ _ (by show k ≠ g; omega)]
/-- Row j turns in place. -/
theorem MRow.turn {w : World} {B C g : Nat} {M : List (List Dw)} (h : MRow w B C g M) {j : Nat} {r : List Dw} (hr : M[j]? = some r) :
    ∃ a cap b c, w.cell? ⟨g, j, none⟩ = some (.slice a r.length cap) ∧ B ≤ b ∧ b ≤ c ∧ (c ≤ C ∨ c = B) ∧ DSc w b c (.slice a r.length cap) r ∧
      ∀ w' r', r'.length = r.length → DSc w' b c (.slice a r.length cap) r' → Mid b c w w' → MRow w' B C g (M.set j r') := by
  have hcell := h.cell hr
  obtain ⟨cs, vs, h1, h2, h3⟩ := h
  obtain ⟨v, b, c, hv, hB, hbc, hC, hd, hb, hn, hk⟩ := h3.turn hr
  have hj : j < M.length := by
    rcases Nat.lt_or_ge j M.length with k | k
    · exact k
    · rw [List.getElem?_eq_none k] at hr; cases hr
  have hc1 : w.cell? ⟨g, j, none⟩ = some v := by
    refine cell_at h1 _ _ ?_
    rw [← h2, List.getElem?_take, if_pos hj] at hv
    rw [← Array.getElem?_toList]; exact hv
  have hd2 := hd
  obtain ⟨a, cap, rfl, _⟩ := hd2
  refine ⟨a, cap, b, c, hc1, hB, hbc, hC, hd, fun w' r' hlen hd' hm => ⟨cs, vs, ?_, by rw [List.length_set]; exact h2, hk w' r' hlen hd' hm⟩⟩
  rw [← h1]
  by_cases hl : 0 < r.length
  · obtain ⟨rfl, cs', hc'⟩ := hb hl
    have hne : g ≠ b := by
      intro e
      subst e
      rw [h1] at hc'
      injection hc' with hc'
      injection hc' with _ hc'
      exact absurd hc' (by decide)
    rcases Nat.lt_or_ge g b with k | k
    · exact hm.1.block _ k
    · exact hm.2 _ (by omega) (lt_of_block h1)
  · obtain rfl := hn (by omega)
    rcases Nat.lt_or_ge g b with k | k
    · exact hm.1.block _ k
    · exact hm.2 _ k (lt_of_block h1)
/-- A matrix, all its blocks from B up to C. -/
def DSM (w : World) (B C : Nat) (v : Value) (M : List (List Dw)) : Prop :=
  ∃ a cap, v = .slice a M.length cap ∧ M.length ≤ cap ∧ (0 < M.length → ∃ g, a = some ⟨g, 0, none⟩ ∧ B ≤ g ∧ g < C ∧ MRow w B C g M)
theorem DSM.block {w w' : World} {B C : Nat} {v : Value} {M : List (List Dw)} (h : DSM w B C v M) (hb : ∀ k, B ≤ k → k < C → k < w.heap.size → w'.heap[k]? = w.heap[k]?) : DSM w' B C v M := by
  obtain ⟨a, cap, h1, h2, h3⟩ := h
  exact ⟨a, cap, h1, h2, fun hl => by obtain ⟨g, e, hB, hC, hr⟩ := h3 hl; exact ⟨g, e, hB, hC, hr.block (hb g hB hC hr.lt) hb⟩⟩
theorem DSM.below {w w' : World} {B C : Nat} {v : Value} {M : List (List Dw)} (h : DSM w B C v M) (hb : Below w.heap.size w w') : DSM w' B C v M := h.block fun k _ _ hk => hb.block k hk
theorem DSM.mono {w : World} {B C D E : Nat} {v : Value} {M : List (List Dw)} (h : DSM w B C v M) (h1 : D ≤ B) (h2 : C ≤ E) : DSM w D E v M := by
  obtain ⟨a, cap, e1, e2, h3⟩ := h
  exact ⟨a, cap, e1, e2, fun hl => by obtain ⟨g, e, hB, hC, hr⟩ := h3 hl; exact ⟨g, e, by omega, by omega, hr.mono h1 h2⟩⟩
theorem DSM.upto {w : World} {B C : Nat} {v : Value} {M : List (List Dw)} (h : DSM w B C v M) : DSM w B w.heap.size v M := by
  obtain ⟨a, cap, e1, e2, h3⟩ := h
  exact ⟨a, cap, e1, e2, fun hl => by obtain ⟨g, e, hB, hC, cs, vs, r1, r2, r3⟩ := h3 hl; exact ⟨g, e, hB, lt_of_block r1, cs, vs, r1, r2, r3.upto⟩⟩
theorem DSM.nil {w : World} {B C cap : Nat} {a : Option Addr} : DSM w B C (.slice a 0 cap) [] := ⟨_, _, rfl, Nat.zero_le _, fun h => absurd h (by simp)⟩
theorem DSM.of_own {w : World} {B C : Nat} {v : Value} {vs : List Value} {M : List (List Dw)} (h : w.ownsRow B 59 1 v M.length vs) (hr : RwS w B C vs M) (hC : w.heap.size ≤ C) : DSM w B C v M := by
  rcases h.2 with ⟨rfl, h2⟩ | ⟨g, cap, cur, hv, hb, hg, hn, hc, hs, ht⟩
  · exact ⟨none, 0, by rw [h2], by omega, fun h => absurd h (by omega)⟩
  · exact ⟨_, cap, hv, hn, fun _ => ⟨g, rfl, hb, by have := lt_of_block hg; omega, cur, _, hg, by rw [← ht]; simp, hr⟩⟩
theorem Mid.trans {B C : Nat} {w w' w2 : World} (h : Mid B C w w') (k : Mid B C w' w2) : Mid B C w w2 :=
  ⟨h.1.trans k.1, fun b hb hl => (k.2 b hb (Nat.lt_of_lt_of_le hl h.1.size)).trans (h.2 b hb hl)⟩
/-- Two rows' slices beside each other. -/
def SP2 (w : World) (g g' j B D : Nat) (x y : Value) (r s : List Dw) (w' : World) : Prop := w'.cell? ⟨g, j, none⟩ = some x ∧ w'.cell? ⟨g', j, none⟩ = some y ∧ g < w'.heap.size ∧ g' < w'.heap.size ∧ Hid (DSl w' B x r) ∧ Hid (DSl w' D y s) ∧ Below w.heap.size w w'
theorem SP2.drew {w w' : World} {g g' j B D : Nat} {x y : Value} {r s : List Dw} (h : SP2 w g g' j B D x y r s w') : SP2 w g g' j B D x y r s w'.drew :=
  let ⟨a, b, z, z', d, e, l⟩ := h; ⟨a, b, z, z', Lib.hid (d.out.block fun _ _ _ => rfl), Lib.hid (e.out.block fun _ _ _ => rfl), l.drew⟩
theorem SP2.below {w w1 w2 : World} {g g' j B D : Nat} {x y : Value} {r s : List Dw} (h : SP2 w g g' j B D x y r s w1) (hb : Below w1.heap.size w1 w2) : SP2 w g g' j B D x y r s w2 :=
  let ⟨a, b, z, z', d, e, l⟩ := h
  ⟨cell_below a hb z, cell_below b hb z', Nat.lt_of_lt_of_le z hb.size, Nat.lt_of_lt_of_le z' hb.size, Lib.hid (d.out.below hb), Lib.hid (e.out.below hb), below_up l hb l.size⟩
theorem SP2.one {w w' : World} {g g' j B D : Nat} {x y : Value} {r s : List Dw} (h : SP2 w g g' j B D x y r s w') : Hid (DSl w' B x r) := h.2.2.2.2.1
theorem SP2.two {w w' : World} {g g' j B D : Nat} {x y : Value} {r s : List Dw} (h : SP2 w g g' j B D x y r s w') : Hid (DSl w' D y s) := h.2.2.2.2.2.1
theorem SP2.low {w w' : World} {g g' j B D : Nat} {x y : Value} {r s : List Dw} (h : SP2 w g g' j B D x y r s w') : Below w.heap.size w w' := let ⟨_, _, _, _, _, _, l⟩ := h; l
/-- The rows stay where the row of their slices grows. -/
theorem RwS.grown {w w4 : World} {B C base n : Nat} {vs xs : List Value} {M : List (List Dw)} {out : Value} (h : RwS w B C vs M) (ho : w.ownsRow base 59 1 out n xs) (hg : w.grownBy w4 out.ownBlock) : RwS w4 B C vs M := by
  obtain ⟨h1, G, h2, h3⟩ := h
  refine ⟨h1, G, fun j v r hv hr => (h2 j v r hv hr).block fun hl _ _ c => hg.block _ c ?_, h3⟩
  intro e
  rcases ho.2 with ⟨rfl, _⟩ | ⟨g, cap, cur, rfl, _, hgb, _⟩
  · cases e
  · have e : g = G j := by have := e; simp [Value.ownBlock] at this; omega
    obtain ⟨_, _, _, _, k⟩ := h2 j v r hv hr
    obtain ⟨_, _, _, cs', hc, _⟩ := k hl
    rw [← e] at hc
    have hc2 := hgb.symm.trans hc
    injection hc2 with hc2
    injection hc2 with _ hc2
    exact absurd hc2 (by decide)
theorem slice_new (w : World) (v : Value) (t : TypeId) : ∀ j u, [v][j]? = some u → (w.alloc (.cells #[v] t)).cell? ((⟨w.heap.size, 0, none⟩ : Addr).add j) = some u := by
  intro j u hj
  match j, hj with
  | 0, hj =>
    injection hj with hj
    subst hj
    exact cell_at (heap_alloc_new w _) 0 _ rfl
theorem ownM_new {w : World} {n : Nat} {t : TypeId} (h : n = w.heap.size) : (w.alloc (.cells #[] t)).ownsRow n t 1 (.slice (some ⟨n, 0, none⟩) 0 0) 0 [] := by
  subst h; exact World.ownsRow_lit w #[] 0 (Nat.le_refl _) (Nat.zero_le _) rfl
end Go.Proofs.YtlmiebeffdcfhaaGreat
