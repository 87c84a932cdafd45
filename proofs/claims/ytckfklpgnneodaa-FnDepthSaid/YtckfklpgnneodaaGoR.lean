/- Rows of gates, each in a block of its own, that grow. -/
import Derived.Test.YtckfklpgnneodaaGxR
import Derived.Test.YtckfklpgnneodaaLyP
namespace Go.Proofs.Ytckfklpgnneodaa
open Go.RowKit
/-- A row of gates in block g, with room for k. -/
def OwG (w : World) (B g k : Nat) (r : List Gt) : Prop := B ≤ g ∧ r.length ≤ k ∧ k ≤ maxLen ∧ ∃ cur : Array Value, w.heap[g]? = some (.cells cur 59 (0, 0)) ∧ cur.size = k * 4 ∧ cur.toList.take (r.length * 4) = gtE.flat r
theorem OwG.own {w : World} {B g k : Nat} {r : List Gt} (h : OwG w B g k r) : w.ownsRow B 59 4 (.slice (some ⟨g, 0, none⟩) r.length k) r.length (gtE.flat r) := by
  obtain ⟨h1, h2, h3, cur, h4, h5, h6⟩ := h
  exact ⟨gtE.flat_len r, .inr ⟨g, k, cur, rfl, h1, h4, h2, h3, h5, h6⟩⟩
theorem OwG.of_own {w : World} {B : Nat} {v : Value} {r : List Gt} (h : w.ownsRow B 59 4 v r.length (gtE.flat r)) (h0 : 0 < r.length) : ∃ g k, v = .slice (some ⟨g, 0, none⟩) r.length k ∧ OwG w B g k r := by
  rcases h.2 with ⟨-, e⟩ | ⟨g, k, cur, e, h1, h4, h2, h3, h5, h6⟩
  · omega
  · exact ⟨g, k, e, h1, h2, h3, cur, h4, h5, h6⟩
theorem OwG.block {w w' : World} {B g k : Nat} {r : List Gt} (h : OwG w B g k r) (hb : w'.heap[g]? = w.heap[g]?) : OwG w' B g k r := by
  obtain ⟨h1, h2, h3, cur, h4, h5⟩ := h
  exact ⟨h1, h2, h3, cur, hb.trans h4, h5⟩
theorem OwG.lt {w : World} {B g k : Nat} {r : List Gt} (h : OwG w B g k r) : g < w.heap.size := by obtain ⟨-, -, -, cur, h4, -⟩ := h; exact lt_of_block h4
theorem OwG.row {w : World} {B g k : Nat} {r : List Gt} (h : OwG w B g k r) : gtE.Row w g r := by obtain ⟨-, -, -, cur, h4, -, h6⟩ := h; exact ⟨cur, h4, h6⟩
theorem OwG.sl {w : World} {B g k : Nat} {r : List Gt} (h : OwG w B g k r) : gtE.Sl w B (.slice (some ⟨g, 0, none⟩) r.length k) r := ⟨_, _, rfl, h.2.1, fun _ => ⟨g, rfl, h.1, h.row⟩⟩
/-- An empty row, made anew. -/
theorem OwG.empty {w : World} {B g : Nat} (h : w.heap[g]? = some (.cells #[] 59 (0, 0))) (hB : B ≤ g) : OwG w B g 0 [] := ⟨hB, Nat.le_refl _, Nat.zero_le _, #[], h, rfl, rfl⟩
/-- Rows, each in a block of its own from B on. -/
def OwR (w : World) (B : Nat) (vs : List Value) (M : List (List Gt)) : Prop :=
  vs.length = M.length ∧ ∃ G K : Nat → Nat, (∀ j r, M[j]? = some r → vs[j]? = some (.slice (some ⟨G j, 0, none⟩) r.length (K j)) ∧ OwG w B (G j) (K j) r) ∧ ∀ i j, i < M.length → j < M.length → G i = G j → i = j
theorem OwR.nil {w : World} {B : Nat} : OwR w B [] [] := ⟨rfl, fun _ => 0, fun _ => 0, fun j r h => by simp at h, fun i j h => absurd h (Nat.not_lt_zero _)⟩
theorem OwR.keep {w w' : World} {B : Nat} {vs : List Value} {M : List (List Gt)} (h : OwR w B vs M) (hb : ∀ k, B ≤ k → k < w.heap.size → (∃ cs, w.heap[k]? = some (.cells cs 59 (0, 0))) → w'.heap[k]? = w.heap[k]?) : OwR w' B vs M := by
  obtain ⟨h1, G, K, h2, h3⟩ := h
  refine ⟨h1, G, K, fun j r hr => ?_, h3⟩
  obtain ⟨a, b⟩ := h2 j r hr
  refine ⟨a, b.block (hb _ b.1 b.lt ?_)⟩
  obtain ⟨-, -, -, cur, h4, -⟩ := b
  exact ⟨cur, h4⟩
theorem OwR.below {w w' : World} {B : Nat} {vs : List Value} {M : List (List Gt)} (h : OwR w B vs M) (hb : Below w.heap.size w w') : OwR w' B vs M := h.keep fun k _ hk _ => hb.block k hk
theorem OwR.at {w : World} {B : Nat} {vs : List Value} {M : List (List Gt)} (h : OwR w B vs M) {j : Nat} {r : List Gt} (hr : M[j]? = some r) : ∃ g k, vs[j]? = some (.slice (some ⟨g, 0, none⟩) r.length k) ∧ OwG w B g k r := by
  obtain ⟨-, G, K, h2, -⟩ := h
  exact ⟨G j, K j, h2 j r hr⟩
/-- One row written anew, in its block or in a new one. -/
theorem OwR.turn {w w' : World} {B : Nat} {vs : List Value} {M : List (List Gt)} (h : OwR w B vs M) {j : Nat} {r : List Gt} {g k : Nat} (hr : M[j]? = some r) (hv : vs[j]? = some (.slice (some ⟨g, 0, none⟩) r.length k))
    {g' k' : Nat} {r' : List Gt} (hn : OwG w' B g' k' r') (hg : g' = g ∨ w.heap.size ≤ g') (hb : ∀ b, b < w.heap.size → b ≠ g → w'.heap[b]? = w.heap[b]?) :
    OwR w' B (vs.set j (.slice (some ⟨g', 0, none⟩) r'.length k')) (M.set j r') := by
  obtain ⟨h1, G, K, h2, h3⟩ := h
  have hj : j < M.length := by
    rcases Nat.lt_or_ge j M.length with h' | h'
    · exact h'
    · rw [List.getElem?_eq_none h'] at hr; cases hr
  have hG : G j = g := by
    have := (h2 j r hr).1
    rw [hv] at this
    injection this with this
    injection this with this
    injection this with this
    injection this with this
    exact this.symm
  refine ⟨by rw [List.length_set, List.length_set]; exact h1, fun i => if i = j then g' else G i, fun i => if i = j then k' else K i, fun i s hs => ?_, fun a b ha hb' hab => ?_⟩
  · dsimp only
    by_cases e : i = j
    · subst e
      rw [List.getElem?_set_self hj] at hs
      injection hs with hs
      subst hs
      rw [if_pos rfl, if_pos rfl, List.getElem?_set_self (by omega)]
      exact ⟨rfl, hn⟩
    · rw [List.getElem?_set_ne (Ne.symm e)] at hs
      rw [if_neg e, if_neg e, List.getElem?_set_ne (Ne.symm e)]
      obtain ⟨a, b⟩ := h2 i s hs
      refine ⟨a, b.block (hb _ b.lt ?_)⟩
      intro h
      have hi : i < M.length := by
        rcases Nat.lt_or_ge i M.length with h' | h'
        · exact h'
        · rw [List.getElem?_eq_none h'] at hs; cases hs
      exact e (h3 i j hi hj (by rw [h, hG]))
  · dsimp only at hab
    rw [List.length_set] at ha hb'
    have low : ∀ i, i < M.length → G i < w.heap.size := fun i hi => (h2 i M[i] (List.getElem?_eq_getElem hi)).2.lt
    by_cases ea : a = j
    · by_cases eb : b = j
      · rw [ea, eb]
      · exfalso
        rw [if_pos ea, if_neg eb] at hab
        rcases hg with e | e
        · exact eb (h3 b j hb' hj (by rw [← hab, e, hG]))
        · have := low b hb'; omega
    · by_cases eb : b = j
      · exfalso
        rw [if_neg ea, if_pos eb] at hab
        rcases hg with e | e
        · exact ea (h3 a j ha hj (by rw [hab, e, hG]))
        · have := low a ha; omega
      · rw [if_neg ea, if_neg eb] at hab
        exact h3 a b ha hb' hab
/-- A row more, in a new block. -/
theorem OwR.snoc {w w' : World} {B : Nat} {vs : List Value} {M : List (List Gt)} (h : OwR w B vs M) {g' k' : Nat} {r' : List Gt} (hn : OwG w' B g' k' r') (hg : w.heap.size ≤ g') (hb : ∀ b, b < w.heap.size → (∃ cs, w.heap[b]? = some (.cells cs 59 (0, 0))) → w'.heap[b]? = w.heap[b]?) :
    OwR w' B (vs ++ [.slice (some ⟨g', 0, none⟩) r'.length k']) (M ++ [r']) := by
  obtain ⟨h1, G, K, h2, h3⟩ := h
  have low : ∀ i, i < M.length → G i < w.heap.size := fun i hi => (h2 i M[i] (List.getElem?_eq_getElem hi)).2.lt
  refine ⟨by simp [h1], fun i => if i = M.length then g' else G i, fun i => if i = M.length then k' else K i, fun i s hs => ?_, fun a b ha hb' hab => ?_⟩
  · dsimp only
    rcases Nat.lt_trichotomy i M.length with hi | rfl | hi
    · rw [List.getElem?_append_left hi] at hs
      rw [if_neg (by omega), if_neg (by omega), List.getElem?_append_left (by omega)]
      obtain ⟨a, b⟩ := h2 i s hs
      refine ⟨a, b.block (hb _ b.lt ?_)⟩
      obtain ⟨-, -, -, cur, h4, -⟩ := b
      exact ⟨cur, h4⟩
    · rw [List.getElem?_append_right (Nat.le_refl _), Nat.sub_self] at hs
      simp at hs
      subst hs
      rw [if_pos rfl, if_pos rfl, List.getElem?_append_right (by omega), h1, Nat.sub_self]
      exact ⟨rfl, hn⟩
    · rw [List.getElem?_eq_none (by simp; omega)] at hs; cases hs
  · dsimp only at hab
    rw [List.length_append, List.length_singleton] at ha hb'
    by_cases ea : a = M.length
    · by_cases eb : b = M.length
      · omega
      · exfalso
        rw [if_pos ea, if_neg eb] at hab
        have := low b (by omega)
        omega
    · by_cases eb : b = M.length
      · exfalso
        rw [if_neg ea, if_pos eb] at hab
        have := low a (by omega)
        omega
      · rw [if_neg ea, if_neg eb] at hab
        exact h3 a b (by omega) (by omega) hab
/-- Such rows are rows of slices as the laws take them. -/
theorem OwR.rwg {w : World} {B : Nat} {vs : List Value} {M : List (List Gt)} (h : OwR w B vs M) : RwG w B w.heap.size vs M := by
  obtain ⟨h1, G, K, h2, h3⟩ := h
  refine ⟨h1, G, fun j v r hv hr => ?_, fun i j r s hr hs _ _ e => ?_⟩
  · obtain ⟨a, b⟩ := h2 j r hr
    rw [hv] at a
    injection a with a
    exact ⟨_, _, a, b.2.1, fun _ => ⟨rfl, b.1, b.lt, b.row⟩⟩
  · have hi : i < M.length := by
      rcases Nat.lt_or_ge i M.length with h' | h'
      · exact h'
      · rw [List.getElem?_eq_none h'] at hr; cases hr
    have hj : j < M.length := by
      rcases Nat.lt_or_ge j M.length with h' | h'
      · exact h'
      · rw [List.getElem?_eq_none h'] at hs; cases hs
    exact h3 i j hi hj e
end Go.Proofs.Ytckfklpgnneodaa
