/- BaseB14: several of our texts in one: GsL GxR GsO TcG GtKd GtK CiKy. -/
import Derived.Test.YtckfklpgnneodaaGreatBaseB06
import Derived.Test.YtckfklpgnneodaaGreatBaseB05
import Derived.Test.YtckfklpgnneodaaGreatBaseB04
import Derived.Test.YtckfklpgnneodaaGreatBaseB03
import Derived.Test.YtckfklpgnneodaaGreatBaseB15
import Derived.Deep.Slices
namespace Go.Proofs.YtckfklpgnneodaaGreat
open Go.RowKit
/-- A slice of the laws' gates that came in. -/
def GsIn (w : World) (B : Nat) (a0 : Option Addr) (l : List Gt) : Prop :=
  l.length ≤ maxLen ∧
  (0 < l.length → ∃ b off, a0 = some ⟨b, off, none⟩ ∧ b < B ∧ ∀ j x, l[j]? = some x → w.cell? ⟨b, off + j * 4, none⟩ = some (.int .i64 x.k) ∧ w.cell? ⟨b, off + j * 4 + 1, none⟩ = some (.int .i64 x.a) ∧ w.cell? ⟨b, off + j * 4 + 2, none⟩ = some (.int .i64 x.b) ∧ w.cell? ⟨b, off + j * 4 + 3, none⟩ = some (.int .i64 x.c))
theorem GsIn.below {w w' : World} {B : Nat} {a0 : Option Addr} {l : List Gt} (h : GsIn w B a0 l) (hb : Below B w w') : GsIn w' B a0 l :=
  ⟨h.1, fun h0 => by
    obtain ⟨b, off, e, hlt, hc⟩ := h.2 h0
    refine ⟨b, off, e, hlt, fun j x hx => ?_⟩
    obtain ⟨c0, c1, c2, c3⟩ := hc j x hx
    exact ⟨(hb.cell (by exact hlt)).trans c0, (hb.cell (by exact hlt)).trans c1, (hb.cell (by exact hlt)).trans c2, (hb.cell (by exact hlt)).trans c3⟩⟩
theorem GsIn.mono {w : World} {B C : Nat} {a0 : Option Addr} {l : List Gt} (h : GsIn w B a0 l) (hC : B ≤ C) : GsIn w C a0 l :=
  ⟨h.1, fun h0 => by obtain ⟨b, off, e, hlt, hc⟩ := h.2 h0; exact ⟨b, off, e, by omega, hc⟩⟩
theorem GsIn.of_sl {w : World} {B : Nat} {v : Value} {l : List Gt} (h : gtE.Sl w B v l) (hm : l.length ≤ 1048576) : ∃ a cap, v = .slice a l.length cap ∧ GsIn w w.heap.size a l := by
  obtain ⟨a, cap, e, -, h3⟩ := h
  refine ⟨a, cap, e, by unfold maxLen; omega, fun h0 => ?_⟩
  obtain ⟨g, e, -, hr⟩ := h3 h0
  refine ⟨g, 0, e, hr.lt, fun j x hx => ?_⟩
  rw [Nat.zero_add]
  exact GRow.cells hr hx
/-- A part of such a slice. -/
theorem GsIn.drop {w : World} {B g off : Nat} {l : List Gt} (h : GsIn w B (some ⟨g, off, none⟩) l) (k : Nat) : GsIn w B (some ⟨g, off + k * 4, none⟩) (l.drop k) := by
  refine ⟨Nat.le_trans (by rw [List.length_drop]; omega) h.1, fun h0 => ?_⟩
  rw [List.length_drop] at h0
  obtain ⟨b, o, e, hb, hc⟩ := h.2 (by omega)
  injection e with e
  injection e with e1 e2
  subst e1 e2
  refine ⟨_, _, rfl, hb, fun j x hx => ?_⟩
  rw [List.getElem?_drop] at hx
  have := hc (k + j) x hx
  rwa [show off + (k + j) * 4 = off + k * 4 + j * 4 by rw [Nat.add_mul]; omega] at this
/-- A gate written into a row, cell by cell. -/
theorem GRow.put {w : World} {g : Nat} {l : List Gt} (h : gtE.Row w g l) {j : Nat} (hj : j < l.length) (x : Gt) :
    gtE.Row ((((w.setCell ⟨g, j * 4, none⟩ (.int .i64 x.k)).setCell ⟨g, j * 4 + 1, none⟩ (.int .i64 x.a)).setCell ⟨g, j * 4 + 2, none⟩ (.int .i64 x.b)).setCell ⟨g, j * 4 + 3, none⟩ (.int .i64 x.c)) g (l.set j x) := by
  obtain ⟨y, hy⟩ : ∃ y, l[j]? = some y := ⟨l[j], List.getElem?_eq_getElem hj⟩
  have h1 := h.put1 (o := 0) (v := .int .i64 x.k) (y := ⟨x.k, y.a, y.b, y.c⟩) hy (by decide) rfl
  have h2 := h1.put1 (j := j) (o := 1) (v := .int .i64 x.a) (x := ⟨x.k, y.a, y.b, y.c⟩) (y := ⟨x.k, x.a, y.b, y.c⟩) (by rw [List.getElem?_set_self hj]) (by decide) rfl
  rw [List.set_set] at h2
  have h3 := h2.put1 (j := j) (o := 2) (v := .int .i64 x.b) (x := ⟨x.k, x.a, y.b, y.c⟩) (y := ⟨x.k, x.a, x.b, y.c⟩) (by rw [List.getElem?_set_self hj]) (by decide) rfl
  rw [List.set_set] at h3
  have h4 := h3.put1 (j := j) (o := 3) (v := .int .i64 x.c) (x := ⟨x.k, x.a, x.b, y.c⟩) (y := x) (by rw [List.getElem?_set_self hj]) (by decide) rfl
  rw [List.set_set] at h4
  exact h4
/-- Two gates of rows beside each other. -/
def E2G (w : World) (g g' o : Nat) (x y : Gt) (w' : World) : Prop :=
  w'.cell? ⟨g, o, none⟩ = some (.int .i64 x.k) ∧ w'.cell? ⟨g, o + 1, none⟩ = some (.int .i64 x.a) ∧ w'.cell? ⟨g, o + 2, none⟩ = some (.int .i64 x.b) ∧ w'.cell? ⟨g, o + 3, none⟩ = some (.int .i64 x.c) ∧
  w'.cell? ⟨g', o, none⟩ = some (.int .i64 y.k) ∧ w'.cell? ⟨g', o + 1, none⟩ = some (.int .i64 y.a) ∧ w'.cell? ⟨g', o + 2, none⟩ = some (.int .i64 y.b) ∧ w'.cell? ⟨g', o + 3, none⟩ = some (.int .i64 y.c) ∧ g < w'.heap.size ∧ g' < w'.heap.size ∧ Below w.heap.size w w'
theorem E2G.drew {w w' : World} {g g' o : Nat} {x y : Gt} (h : E2G w g g' o x y w') : E2G w g g' o x y w'.drew :=
  let ⟨a0, a1, a2, a3, b0, b1, b2, b3, z, z', l⟩ := h; ⟨a0, a1, a2, a3, b0, b1, b2, b3, z, z', l.drew⟩
theorem E2G.below {w w1 w2 : World} {g g' o : Nat} {x y : Gt} (h : E2G w g g' o x y w1) (hb : Below w1.heap.size w1 w2) : E2G w g g' o x y w2 :=
  let ⟨a0, a1, a2, a3, b0, b1, b2, b3, z, z', l⟩ := h
  ⟨cell_below a0 hb z, cell_below a1 hb z, cell_below a2 hb z, cell_below a3 hb z, cell_below b0 hb z', cell_below b1 hb z', cell_below b2 hb z', cell_below b3 hb z', Nat.lt_of_lt_of_le z hb.size, Nat.lt_of_lt_of_le z' hb.size, below_up l hb l.size⟩
theorem E2G.low {w w' : World} {g g' o : Nat} {x y : Gt} (h : E2G w g g' o x y w') : Below w.heap.size w w' := let ⟨_, _, _, _, _, _, _, _, _, _, l⟩ := h; l
attribute [local irreducible] World.cell?
end Go.Proofs.YtckfklpgnneodaaGreat
namespace Go.Proofs.YtckfklpgnneodaaGreat
open Go.RowKit
def RowAtG (w : World) (B C n : Nat) (v : Value) (r : List Gt) : Prop :=
  ∃ a cap, v = .slice a r.length cap ∧ r.length ≤ cap ∧ (0 < r.length → a = some ⟨n, 0, none⟩ ∧ B ≤ n ∧ n < C ∧ gtE.Row w n r)
theorem RowAtG.dsc2 {w : World} {B C n : Nat} {v : Value} {r : List Gt} (h : RowAtG w B C n v r) : gtE.Sc w B C v r := by
  obtain ⟨a, cap, h1, h2, h3⟩ := h
  exact ⟨a, cap, h1, h2, fun hl => by obtain ⟨e, hB, hC, hr⟩ := h3 hl; exact ⟨n, e, hB, hC, hr⟩⟩
theorem RowAtG.block {w w' : World} {B C n : Nat} {v : Value} {r : List Gt} (h : RowAtG w B C n v r) (hb : 0 < r.length → B ≤ n → n < C → n < w.heap.size → w'.heap[n]? = w.heap[n]?) : RowAtG w' B C n v r := by
  obtain ⟨a, cap, h1, h2, h3⟩ := h
  exact ⟨a, cap, h1, h2, fun hl => by obtain ⟨e, hB, hC, hr⟩ := h3 hl; exact ⟨e, hB, hC, hr.block (hb hl hB hC hr.lt)⟩⟩
theorem RowAtG.mono {w : World} {B C D E n : Nat} {v : Value} {r : List Gt} (h : RowAtG w B C n v r) (h1 : D ≤ B) (h2 : C ≤ E) : RowAtG w D E n v r := by
  obtain ⟨a, cap, e1, e2, h3⟩ := h
  exact ⟨a, cap, e1, e2, fun hl => by obtain ⟨e, hB, hC, hr⟩ := h3 hl; exact ⟨e, by omega, by omega, hr⟩⟩
theorem Enc.Sc.rowAtG {w : World} {B C : Nat} {v : Value} {r : List Gt} (h : gtE.Sc w B C v r) : ∃ n, RowAtG w B C n v r := by
  obtain ⟨a, cap, h1, h2, h3⟩ := h
  by_cases hl : 0 < r.length
  · obtain ⟨g, e, hB, hC, hr⟩ := h3 hl
    exact ⟨g, a, cap, h1, h2, fun _ => ⟨e, hB, hC, hr⟩⟩
  · exact ⟨0, a, cap, h1, h2, fun h => absurd h hl⟩
def RwG (w : World) (B C : Nat) (vs : List Value) (M : List (List Gt)) : Prop :=
  vs.length = M.length ∧ ∃ G : Nat → Nat, (∀ j v r, vs[j]? = some v → M[j]? = some r → RowAtG w B C (G j) v r) ∧
    (∀ i j r s, M[i]? = some r → M[j]? = some s → 0 < r.length → 0 < s.length → G i = G j → i = j)
theorem RwG.nil {w : World} {B C : Nat} : RwG w B C [] [] := ⟨rfl, fun _ => 0, fun j v r h => by simp at h, fun i j r s h => by simp at h⟩
theorem RwG.block {w w' : World} {B C : Nat} {vs : List Value} {M : List (List Gt)} (h : RwG w B C vs M) (hb : ∀ k, B ≤ k → k < C → k < w.heap.size → w'.heap[k]? = w.heap[k]?) : RwG w' B C vs M := by
  obtain ⟨h1, G, h2, h3⟩ := h
  exact ⟨h1, G, fun j v r hv hr => (h2 j v r hv hr).block fun _ a b c => hb _ a b c, h3⟩
theorem RwG.own {w w' : World} {B C g : Nat} {vs : List Value} {M : List (List Gt)} {cs : Array Value} (h : RwG w B C vs M) (hg : w.heap[g]? = some (.cells cs 24 (0, 0)))
    (hb : ∀ k, k ≠ g → k < w.heap.size → w'.heap[k]? = w.heap[k]?) : RwG w' B C vs M := by
  obtain ⟨h1, G, h2, h3⟩ := h
  refine ⟨h1, G, fun j v r hv hr => (h2 j v r hv hr).block fun hl _ _ c => hb _ ?_ c, h3⟩
  intro e
  obtain ⟨_, _, _, _, k⟩ := h2 j v r hv hr
  obtain ⟨_, _, _, cs', hc, _⟩ := k hl
  rw [e, hg] at hc
  injection hc with hc
  injection hc with _ hc
  exact absurd hc (by decide)
theorem RwG.mono {w : World} {B C D E : Nat} {vs : List Value} {M : List (List Gt)} (h : RwG w B C vs M) (h1 : D ≤ B) (h2 : C ≤ E) : RwG w D E vs M := by
  obtain ⟨a, G, b, c⟩ := h
  exact ⟨a, G, fun j v r hv hr => (b j v r hv hr).mono h1 h2, c⟩
theorem RwG.upto {w : World} {B C : Nat} {vs : List Value} {M : List (List Gt)} (h : RwG w B C vs M) : RwG w B w.heap.size vs M := by
  obtain ⟨a, G, b, c⟩ := h
  refine ⟨a, G, fun j v r hv hr => ?_, c⟩
  obtain ⟨p, cap, e1, e2, e3⟩ := b j v r hv hr
  exact ⟨p, cap, e1, e2, fun hl => by obtain ⟨e, hB, _, hr⟩ := e3 hl; exact ⟨e, hB, hr.lt, hr⟩⟩
theorem RwG.at {w : World} {B C : Nat} {vs : List Value} {M : List (List Gt)} (h : RwG w B C vs M) {j : Nat} {r : List Gt} (hr : M[j]? = some r) : ∃ v, vs[j]? = some v ∧ gtE.Sc w B C v r := by
  obtain ⟨h1, G, h2, h3⟩ := h
  have hj : j < M.length := by
    rcases Nat.lt_or_ge j M.length with k | k
    · exact k
    · rw [List.getElem?_eq_none k] at hr; cases hr
  have e : vs[j]? = some (vs[j]'(by omega)) := List.getElem?_eq_getElem _
  exact ⟨_, e, (h2 j _ r e hr).dsc2⟩
theorem RwG.set {w w' : World} {B C C' : Nat} {vs : List Value} {M : List (List Gt)} (h : RwG w B C vs M) {j : Nat} {v : Value} {r : List Gt} (hv : gtE.Sc w' C C' v r) (hB : B ≤ C) (hC : C ≤ C')
    (hb : ∀ k, B ≤ k → k < C → k < w.heap.size → w'.heap[k]? = w.heap[k]?) : RwG w' B C' (vs.set j v) (M.set j r) := by
  obtain ⟨h1, G, h2, h3⟩ := h
  obtain ⟨n, hn⟩ := hv.rowAtG
  refine ⟨by simp [h1], fun i => if i = j then n else G i, fun i u s hu hs => ?_, fun i k s t hs ht ls lt e => ?_⟩
  · by_cases hi : i = j
    · subst hi
      have hl : i < vs.length := by
        rcases Nat.lt_or_ge i vs.length with k | k
        · exact k
        · rw [List.getElem?_eq_none (by simpa using k)] at hu; cases hu
      rw [List.getElem?_set_self hl] at hu
      rw [List.getElem?_set_self (by omega)] at hs
      injection hu with hu; injection hs with hs
      subst hu hs
      simpa using hn.mono hB (Nat.le_refl _)
    · rw [List.getElem?_set_ne (by omega)] at hu
      rw [List.getElem?_set_ne (by omega)] at hs
      simp only [hi, if_false]
      exact ((h2 i u s hu hs).block fun _ a b c => hb _ a b c).mono (Nat.le_refl _) hC
  · have key : ∀ (i : Nat) (s : List Gt), i ≠ j → M[i]? = some s → 0 < s.length → G i < C := fun i s hi hs ls => by
      have hl : i < M.length := by
        rcases Nat.lt_or_ge i M.length with k | k
        · exact k
        · rw [List.getElem?_eq_none k] at hs; cases hs
      have e : vs[i]? = some (vs[i]'(by omega)) := List.getElem?_eq_getElem _
      obtain ⟨_, _, _, _, q⟩ := h2 i _ s e hs
      exact (q ls).2.2.1
    have self : ∀ (t : List Gt), (M.set j r)[j]? = some t → 0 < t.length → C ≤ n := fun t ht lt => by
      have hl : j < M.length := by
        rcases Nat.lt_or_ge j M.length with k | k
        · exact k
        · rw [List.getElem?_eq_none (by simpa using k)] at ht; cases ht
      rw [List.getElem?_set_self hl] at ht
      injection ht with ht
      subst ht
      obtain ⟨_, _, _, _, q⟩ := hn
      exact (q lt).2.1
    by_cases hi : i = j <;> by_cases hk : k = j
    · omega
    · exfalso
      simp only [hi, hk, if_true, if_false] at e
      rw [hi] at hs
      rw [List.getElem?_set_ne (by omega)] at ht
      have := key k t hk ht lt
      have := self s hs ls
      omega
    · exfalso
      simp only [hi, hk, if_true, if_false] at e
      rw [hk] at ht
      rw [List.getElem?_set_ne (by omega)] at hs
      have := key i s hi hs ls
      have := self t ht lt
      omega
    · simp only [hi, hk, if_false] at e
      rw [List.getElem?_set_ne (by omega)] at hs ht
      exact h3 i k s t hs ht ls lt e
theorem RwG.snoc {w w' : World} {B C C' : Nat} {vs : List Value} {M : List (List Gt)} (h : RwG w B C vs M) {v : Value} {r : List Gt} (hv : gtE.Sc w' C C' v r) (hB : B ≤ C) (hC : C ≤ C')
    (hb : ∀ k, B ≤ k → k < C → k < w.heap.size → w'.heap[k]? = w.heap[k]?) : RwG w' B C' (vs ++ [v]) (M ++ [r]) := by
  have hl := h.1
  have h0 : RwG w B C (vs ++ [.slice none 0 0]) (M ++ [[]]) := by
    obtain ⟨h1, G, h2, h3⟩ := h
    refine ⟨by simp [h1], G, fun j u s hu hs => ?_, fun i k s t hs ht ls lt e => ?_⟩
    · by_cases hj : j < M.length
      · rw [List.getElem?_append_left (by omega)] at hu
        rw [List.getElem?_append_left hj] at hs
        exact h2 j u s hu hs
      · rw [List.getElem?_append_right (by omega)] at hu
        rw [List.getElem?_append_right (by omega)] at hs
        by_cases hj2 : j - M.length = 0
        · rw [hj2] at hs
          rw [h1, hj2] at hu
          simp at hu hs
          subst hu hs
          exact ⟨none, 0, rfl, Nat.le_refl _, fun h => absurd h (by simp)⟩
        · rw [List.getElem?_eq_none (by simp; omega)] at hs; cases hs
    · have key : ∀ (i : Nat) (s : List Gt), (M ++ [[]])[i]? = some s → 0 < s.length → M[i]? = some s := fun i s hs ls => by
        by_cases hj : i < M.length
        · rwa [List.getElem?_append_left hj] at hs
        · rw [List.getElem?_append_right (by omega)] at hs
          by_cases hj2 : i - M.length = 0
          · rw [hj2] at hs; simp at hs; subst hs; simp at ls
          · rw [List.getElem?_eq_none (by simp; omega)] at hs; cases hs
      exact h3 i k s t (key i s hs ls) (key k t ht lt) ls lt e
  have h4 := h0.set (j := M.length) hv hB hC hb
  rw [List.set_append_right _ _ (by omega), List.set_append_right _ _ (by omega)] at h4
  simpa [hl] using h4
theorem RwG.turn {w : World} {B C : Nat} {vs : List Value} {M : List (List Gt)} (h : RwG w B C vs M) {j : Nat} {r : List Gt} (hr : M[j]? = some r) :
    ∃ v b c, vs[j]? = some v ∧ B ≤ b ∧ b ≤ c ∧ (c ≤ C ∨ c = B) ∧ gtE.Sc w b c v r ∧ (0 < r.length → c = b + 1 ∧ ∃ cs, w.heap[b]? = some (.cells cs 44 (0, 0))) ∧ (r.length = 0 → b = c) ∧
      ∀ w' r', r'.length = r.length → gtE.Sc w' b c v r' → Mid b c w w' → RwG w' B C vs (M.set j r') := by
  obtain ⟨h1, G, h2, h3⟩ := h
  have hj : j < M.length := by
    rcases Nat.lt_or_ge j M.length with k | k
    · exact k
    · rw [List.getElem?_eq_none k] at hr; cases hr
  have e : vs[j]? = some (vs[j]'(by omega)) := List.getElem?_eq_getElem _
  have hat := h2 j _ r e hr
  by_cases hl : 0 < r.length
  · obtain ⟨a, cap, e1, e2, e3⟩ := hat
    obtain ⟨ea, hB, hC, hrow⟩ := e3 hl
    refine ⟨_, G j, G j + 1, e, hB, by omega, .inl hC, ⟨a, cap, e1, e2, fun _ => ⟨_, ea, Nat.le_refl _, Nat.lt_succ_self _, hrow⟩⟩, fun _ => ⟨rfl, by obtain ⟨cs, hc, _⟩ := hrow; exact ⟨cs, hc⟩⟩, fun h => absurd h (by omega), fun w' r' hlen hd hm => ?_⟩
    refine ⟨by simp [h1], G, fun i u s hu hs => ?_, fun i k s t hs ht ls lt ek => ?_⟩
    · by_cases hi : i = j
      · subst hi
        rw [List.getElem?_set_self hj] at hs
        injection hs with hs
        subst hs
        rw [e] at hu
        injection hu with hu
        subst hu
        obtain ⟨a', cap', f1, f2, f3⟩ := hd
        refine ⟨a', cap', f1, f2, fun hl' => ?_⟩
        obtain ⟨g', f4, f5, f6, f7⟩ := f3 hl'
        obtain rfl : g' = G i := by omega
        exact ⟨f4, hB, hC, f7⟩
      · rw [List.getElem?_set_ne (by omega)] at hs
        refine (h2 i u s hu hs).block fun ls _ _ c => ?_
        have hne : G i ≠ G j := fun k => hi (h3 i j s r hs hr ls hl k)
        rcases Nat.lt_or_ge (G i) (G j) with k | k
        · exact hm.1.block _ k
        · exact hm.2 _ (by omega) c
    · have key : ∀ (i : Nat) (s : List Gt), (M.set j r')[i]? = some s → 0 < s.length → ∃ s' : List Gt, M[i]? = some s' ∧ 0 < s'.length := fun i s hs ls => by
        by_cases hi : i = j
        · subst hi
          rw [List.getElem?_set_self hj] at hs
          injection hs with hs
          exact ⟨r, hr, hl⟩
        · rw [List.getElem?_set_ne (by omega)] at hs
          exact ⟨s, hs, ls⟩
      obtain ⟨s', p1, p2⟩ := key i s hs ls
      obtain ⟨t', q1, q2⟩ := key k t ht lt
      exact h3 i k s' t' p1 q1 p2 q2 ek
  · have hr0 : r = [] := List.eq_nil_of_length_eq_zero (by omega)
    subst hr0
    refine ⟨_, B, B, e, Nat.le_refl _, Nat.le_refl _, .inr rfl, ?_, fun h => absurd h hl, fun _ => rfl, fun w' r' hlen hd hm => ?_⟩
    · obtain ⟨a, cap, e1, e2, _⟩ := hat
      exact ⟨a, cap, e1, e2, fun h => absurd h hl⟩
    · have hr1 : r' = [] := List.eq_nil_of_length_eq_zero (by simpa using hlen)
      subst hr1
      rw [show M.set j [] = M from by
        refine List.ext_getElem? fun i => ?_
        by_cases hi : i = j
        · subst hi; rw [List.getElem?_set_self hj, hr]
        · rw [List.getElem?_set_ne (by omega)]]
      exact ⟨h1, G, fun i u s hu hs => (h2 i u s hu hs).block fun _ a _ c => hm.2 _ a c, h3⟩
def MRowG (w : World) (B C g : Nat) (M : List (List Gt)) : Prop :=
  ∃ (cs : Array Value) (vs : List Value), w.heap[g]? = some (.cells cs 24 (0, 0)) ∧ cs.toList.take M.length = vs ∧ RwG w B C vs M
theorem MRowG.lt {w : World} {B C g : Nat} {M : List (List Gt)} (h : MRowG w B C g M) : g < w.heap.size := by obtain ⟨cs, vs, h1, _⟩ := h; exact lt_of_block h1
theorem MRowG.free {w : World} {B C g : Nat} {M : List (List Gt)} (h : MRowG w B C g M) (o : Nat) : w.frozen? ⟨g, o, none⟩ = false := by obtain ⟨cs, vs, h1, _⟩ := h; exact free_at h1 o
theorem MRowG.block {w w' : World} {B C g : Nat} {M : List (List Gt)} (h : MRowG w B C g M) (hg : w'.heap[g]? = w.heap[g]?) (hb : ∀ k, B ≤ k → k < C → k < w.heap.size → w'.heap[k]? = w.heap[k]?) : MRowG w' B C g M := by
  obtain ⟨cs, vs, h1, h2, h3⟩ := h
  exact ⟨cs, vs, hg.trans h1, h2, h3.block hb⟩
theorem MRowG.mono {w : World} {B C D E g : Nat} {M : List (List Gt)} (h : MRowG w B C g M) (h1 : D ≤ B) (h2 : C ≤ E) : MRowG w D E g M := by
  obtain ⟨cs, vs, a, b, c⟩ := h
  exact ⟨cs, vs, a, b, c.mono h1 h2⟩
theorem MRowG.cell {w : World} {B C g : Nat} {M : List (List Gt)} (h : MRowG w B C g M) {j : Nat} {r : List Gt} (hr : M[j]? = some r) :
    ∃ a cap, w.cell? ⟨g, j, none⟩ = some (.slice a r.length cap) ∧ gtE.Sc w B C (.slice a r.length cap) r := by
  obtain ⟨cs, vs, h1, h2, h3⟩ := h
  obtain ⟨v, hv, hd⟩ := h3.at hr
  have hj : j < M.length := by
    rcases Nat.lt_or_ge j M.length with k | k
    · exact k
    · rw [List.getElem?_eq_none k] at hr; cases hr
  have hd2 := hd
  obtain ⟨a, cap, rfl, _⟩ := hd2
  refine ⟨a, cap, cell_at h1 _ _ ?_, hd⟩
  rw [← h2, List.getElem?_take, if_pos hj] at hv
  rw [← Array.getElem?_toList]; exact hv
theorem MRowG.put {w w' : World} {B C C' g : Nat} {M : List (List Gt)} (h : MRowG w B C g M) {j : Nat} {v : Value} {r : List Gt} (_ : j < M.length) (hv : gtE.Sc w' C C' v r) (hB : B ≤ C) (hC : C ≤ C')
    (hb : ∀ k, k < w.heap.size → w'.heap[k]? = w.heap[k]?) : MRowG (w'.setCell ⟨g, j, none⟩ v) B C' g (M.set j r) := by
  obtain ⟨cs, vs, h1, h2, h3⟩ := h
  have h1' := (hb g (lt_of_block h1)).trans h1
  refine ⟨_, vs.set j v, heap_set h1' _ _, ?_, ?_⟩
  · rw [List.length_set, ← h2, Array.toList_setIfInBounds, List.take_set]
  · exact (h3.set hv hB hC fun k _ _ c => hb k c).own h1' fun k hk _ => by rw [Below.heap_setCell _ _ _ _ (by show k ≠ g; omega)]
theorem MRowG.turn {w : World} {B C g : Nat} {M : List (List Gt)} (h : MRowG w B C g M) {j : Nat} {r : List Gt} (hr : M[j]? = some r) :
    ∃ a cap b c, w.cell? ⟨g, j, none⟩ = some (.slice a r.length cap) ∧ B ≤ b ∧ b ≤ c ∧ (c ≤ C ∨ c = B) ∧ gtE.Sc w b c (.slice a r.length cap) r ∧
      ∀ w' r', r'.length = r.length → gtE.Sc w' b c (.slice a r.length cap) r' → Mid b c w w' → MRowG w' B C g (M.set j r') := by
  have hcell := h.cell hr
  obtain ⟨cs, vs, h1, h2, h3⟩ := h
  obtain ⟨v, b, c, hv, hB, hbc, hC, hd, hb, hn, hk⟩ := h3.turn hr
  have hj : j < M.length := by
    rcases Nat.lt_or_ge j M.length with k | k
    · exact k
    · rw [List.getElem?_eq_none k] at hr; cases hr
  have hc1 : w.cell? ⟨g, j, none⟩ = some v := by
    refine cell_at h1 _ _ ?_
    rw [← h2, List.getElem?_take, if_pos hj] at hv
    rw [← Array.getElem?_toList]; exact hv
  have hd2 := hd
  obtain ⟨a, cap, rfl, _⟩ := hd2
  refine ⟨a, cap, b, c, hc1, hB, hbc, hC, hd, fun w' r' hlen hd' hm => ⟨cs, vs, ?_, by rw [List.length_set]; exact h2, hk w' r' hlen hd' hm⟩⟩
  rw [← h1]
  by_cases hl : 0 < r.length
  · obtain ⟨rfl, cs', hc'⟩ := hb hl
    have hne : g ≠ b := by
      intro e
      subst e
      rw [h1] at hc'
      injection hc' with hc'
      injection hc' with _ hc'
      exact absurd hc' (by decide)
    rcases Nat.lt_or_ge g b with k | k
    · exact hm.1.block _ k
    · exact hm.2 _ (by omega) (lt_of_block h1)
  · obtain rfl := hn (by omega)
    rcases Nat.lt_or_ge g b with k | k
    · exact hm.1.block _ k
    · exact hm.2 _ k (lt_of_block h1)
def GSM (w : World) (B C : Nat) (v : Value) (M : List (List Gt)) : Prop :=
  ∃ a cap, v = .slice a M.length cap ∧ M.length ≤ cap ∧ (0 < M.length → ∃ g, a = some ⟨g, 0, none⟩ ∧ B ≤ g ∧ g < C ∧ MRowG w B C g M)
theorem GSM.block {w w' : World} {B C : Nat} {v : Value} {M : List (List Gt)} (h : GSM w B C v M) (hb : ∀ k, B ≤ k → k < C → k < w.heap.size → w'.heap[k]? = w.heap[k]?) : GSM w' B C v M := by
  obtain ⟨a, cap, h1, h2, h3⟩ := h
  exact ⟨a, cap, h1, h2, fun hl => by obtain ⟨g, e, hB, hC, hr⟩ := h3 hl; exact ⟨g, e, hB, hC, hr.block (hb g hB hC hr.lt) hb⟩⟩
theorem GSM.below {w w' : World} {B C : Nat} {v : Value} {M : List (List Gt)} (h : GSM w B C v M) (hb : Below w.heap.size w w') : GSM w' B C v M := h.block fun k _ _ hk => hb.block k hk
theorem GSM.mono {w : World} {B C D E : Nat} {v : Value} {M : List (List Gt)} (h : GSM w B C v M) (h1 : D ≤ B) (h2 : C ≤ E) : GSM w D E v M := by
  obtain ⟨a, cap, e1, e2, h3⟩ := h
  exact ⟨a, cap, e1, e2, fun hl => by obtain ⟨g, e, hB, hC, hr⟩ := h3 hl; exact ⟨g, e, by omega, by omega, hr.mono h1 h2⟩⟩
theorem GSM.upto {w : World} {B C : Nat} {v : Value} {M : List (List Gt)} (h : GSM w B C v M) : GSM w B w.heap.size v M := by
  obtain ⟨a, cap, e1, e2, h3⟩ := h
  exact ⟨a, cap, e1, e2, fun hl => by obtain ⟨g, e, hB, hC, cs, vs, r1, r2, r3⟩ := h3 hl; exact ⟨g, e, hB, lt_of_block r1, cs, vs, r1, r2, r3.upto⟩⟩
theorem GSM.nil {w : World} {B C cap : Nat} {a : Option Addr} : GSM w B C (.slice a 0 cap) [] := ⟨_, _, rfl, Nat.zero_le _, fun h => absurd h (by simp)⟩
theorem GSM.of_own {w : World} {B C : Nat} {v : Value} {vs : List Value} {M : List (List Gt)} (h : w.ownsRow B 24 1 v M.length vs) (hr : RwG w B C vs M) (hC : w.heap.size ≤ C) : GSM w B C v M := by
  rcases h.2 with ⟨rfl, h2⟩ | ⟨g, cap, cur, hv, hb, hg, hn, hc, hs, ht⟩
  · exact ⟨none, 0, by rw [h2], by omega, fun h => absurd h (by omega)⟩
  · exact ⟨_, cap, hv, hn, fun _ => ⟨g, rfl, hb, by have := lt_of_block hg; omega, cur, _, hg, by rw [← ht]; simp, hr⟩⟩
def SP2G (w : World) (g g' j B D : Nat) (x y : Value) (r s : List Gt) (w' : World) : Prop := w'.cell? ⟨g, j, none⟩ = some x ∧ w'.cell? ⟨g', j, none⟩ = some y ∧ g < w'.heap.size ∧ g' < w'.heap.size ∧ Hid (gtE.Sl w' B x r) ∧ Hid (gtE.Sl w' D y s) ∧ Below w.heap.size w w'
theorem SP2G.drew {w w' : World} {g g' j B D : Nat} {x y : Value} {r s : List Gt} (h : SP2G w g g' j B D x y r s w') : SP2G w g g' j B D x y r s w'.drew :=
  let ⟨a, b, z, z', d, e, l⟩ := h; ⟨a, b, z, z', Lib.hid (d.out.block fun _ _ _ => rfl), Lib.hid (e.out.block fun _ _ _ => rfl), l.drew⟩
theorem SP2G.below {w w1 w2 : World} {g g' j B D : Nat} {x y : Value} {r s : List Gt} (h : SP2G w g g' j B D x y r s w1) (hb : Below w1.heap.size w1 w2) : SP2G w g g' j B D x y r s w2 :=
  let ⟨a, b, z, z', d, e, l⟩ := h
  ⟨cell_below a hb z, cell_below b hb z', Nat.lt_of_lt_of_le z hb.size, Nat.lt_of_lt_of_le z' hb.size, Lib.hid (d.out.below hb), Lib.hid (e.out.below hb), below_up l hb l.size⟩
theorem SP2G.one {w w' : World} {g g' j B D : Nat} {x y : Value} {r s : List Gt} (h : SP2G w g g' j B D x y r s w') : Hid (gtE.Sl w' B x r) := h.2.2.2.2.1
theorem SP2G.two {w w' : World} {g g' j B D : Nat} {x y : Value} {r s : List Gt} (h : SP2G w g g' j B D x y r s w') : Hid (gtE.Sl w' D y s) := h.2.2.2.2.2.1
theorem SP2G.low {w w' : World} {g g' j B D : Nat} {x y : Value} {r s : List Gt} (h : SP2G w g g' j B D x y r s w') : Below w.heap.size w w' := let ⟨_, _, _, _, _, _, l⟩ := h; l
theorem RwG.grown {w w4 : World} {B C base n : Nat} {vs xs : List Value} {M : List (List Gt)} {out : Value} (h : RwG w B C vs M) (ho : w.ownsRow base 24 1 out n xs) (hg : w.grownBy w4 out.ownBlock) : RwG w4 B C vs M := by
  obtain ⟨h1, G, h2, h3⟩ := h
  refine ⟨h1, G, fun j v r hv hr => (h2 j v r hv hr).block fun hl _ _ c => hg.block _ c ?_, h3⟩
  intro e
  rcases ho.2 with ⟨rfl, _⟩ | ⟨g, cap, cur, rfl, _, hgb, _⟩
  · cases e
  · have e : g = G j := by have := e; simp [Value.ownBlock] at this; omega
    obtain ⟨_, _, _, _, k⟩ := h2 j v r hv hr
    obtain ⟨_, _, _, cs', hc, _⟩ := k hl
    rw [← e] at hc
    have hc2 := hgb.symm.trans hc
    injection hc2 with hc2
    injection hc2 with _ hc2
    exact absurd hc2 (by decide)
theorem slice_newG (w : World) (v : Value) (t : TypeId) : ∀ j u, [v][j]? = some u → (w.alloc (.cells #[v] t)).cell? ((⟨w.heap.size, 0, none⟩ : Addr).add j) = some u := by
  intro j u hj
  match j, hj with
  | 0, hj =>
    injection hj with hj
    subst hj
    exact cell_at (heap_alloc_new w _) 0 _ rfl
end Go.Proofs.YtckfklpgnneodaaGreat
namespace Go.Proofs.YtckfklpgnneodaaGreat
open Go.ChangeShapes Go.WideShapes Go.ChangeAt Go.RowKit Go.Lib Go.Joins
end Go.Proofs.YtckfklpgnneodaaGreat
namespace Go.Proofs.YtckfklpgnneodaaGreat
theorem ciB_parts {n : Int} {L : List Gt} (h : ciB n L = true) : (∀ g ∈ L, gtB g n = true) ∧ (1 ≤ n ∧ n ≤ 4) ∧ L.length ≤ 60 := by
  unfold ciB at h
  simp only [Bool.and_eq_true, decide_eq_true_eq, List.all_eq_true] at h
  exact ⟨h.1, h.2.1, h.2.2⟩
theorem ciB_of {n : Int} {L : List Gt} (h1 : ∀ g ∈ L, gtB g n = true) (h2 : 1 ≤ n ∧ n ≤ 4) (h3 : L.length ≤ 60) : ciB n L = true := by
  unfold ciB
  simp only [Bool.and_eq_true, decide_eq_true_eq, List.all_eq_true]
  exact ⟨h1, h2, h3⟩
end Go.Proofs.YtckfklpgnneodaaGreat
namespace Go.Proofs.YtckfklpgnneodaaGreat
open Go.RowKit
attribute [local irreducible] World.cell?
set_option maxRecDepth 100000 in
set_option maxHeartbeats 800000 in
theorem ivalidG_no (g : Gt) (n : Int) (w : World) (h : ¬ (1 ≤ n ∧ n ≤ 4)) (n0 : -9223372036854775808 ≤ n) (n1 : n ≤ 9223372036854775807) :
    Calls Tryz.prog 34 #[(.agg #[.int .i64 g.k, .int .i64 g.a, .int .i64 g.b, .int .i64 g.c]), .int .i64 n] w fun e w' => e = .returned (.bool false) ∧ Below w.heap.size w w' := by
  have Ha := Lib.hid (fun w => iar0 g.k w)
  have Hq := Lib.hid (fun w => iisq_no n w h n0 n1)
  have Hb0 := Lib.hid (show Below w.heap.size w (w.alloc (.cells #[.int .i64 g.k, .int .i64 g.a, .int .i64 g.b, .int .i64 g.c] 44)) by go_grown)
  generalize ar g.k = t at *
  clear h n0 n1
  go_enter Tryz.func34, Tryz.ntmps34
  go_wp2_with fail
  refine (Ha.out _).mono ?_
  rintro e w1 ⟨rfl, rfl⟩
  go_wp2_with (first | (go_at_call 33; refine (Hq.out _).mono ?_; rintro e wR ⟨rfl, rfl⟩))
  go_ret
  exact ⟨rfl, Hb0.out⟩
set_option maxRecDepth 100000 in
set_option maxHeartbeats 800000 in
theorem ivalidG_zero (g : Gt) (n : Int) (w : World) (hn : 1 ≤ n ∧ n ≤ 4) (h : ar g.k = 0) :
    Calls Tryz.prog 34 #[(.agg #[.int .i64 g.k, .int .i64 g.a, .int .i64 g.b, .int .i64 g.c]), .int .i64 n] w fun e w' => e = .returned (.bool false) ∧ Below w.heap.size w w' := by
  have Ha := Lib.hid (fun w => iar0 g.k w)
  have Hq := Lib.hid (fun w => iisq_yes n w hn)
  have Hb0 := Lib.hid (show Below w.heap.size w (w.alloc (.cells #[.int .i64 g.k, .int .i64 g.a, .int .i64 g.b, .int .i64 g.c] 44)) by go_grown)
  rw [h] at Ha
  clear h hn
  go_enter Tryz.func34, Tryz.ntmps34
  go_wp2_with fail
  refine (Ha.out _).mono ?_
  rintro e w1 ⟨rfl, rfl⟩
  go_wp2_with (first | (go_at_call 33; refine (Hq.out _).mono ?_; rintro e wR ⟨rfl, rfl⟩))
  go_ret
  exact ⟨rfl, Hb0.out⟩
set_option maxRecDepth 100000 in
set_option maxHeartbeats 3200000 in
theorem ivalidG_10 (k a b c n : Int) (w : World) (hn : 1 ≤ n ∧ n ≤ 4) (h : ar k = 1) (hb : b ≠ 0) :
    Calls Tryz.prog 34 #[(.agg #[.int .i64 (Gt.mk k a b c).k, .int .i64 (Gt.mk k a b c).a, .int .i64 (Gt.mk k a b c).b, .int .i64 (Gt.mk k a b c).c]), .int .i64 n] w fun e w' => e = .returned (.bool false) ∧ Below w.heap.size w w' := by
  have Ha := Lib.hid (fun w => iar0 k w)
  have Hq := Lib.hid (fun w => iisq_yes n w hn)
  have HB := Lib.hid (show Below w.heap.size w ((w.alloc (.cells #[.int .i64 (Gt.mk k a b c).k, .int .i64 (Gt.mk k a b c).a, .int .i64 (Gt.mk k a b c).b, .int .i64 (Gt.mk k a b c).c] 44)).alloc (.cells #[.int .i64 a, .int .i64 b, .int .i64 c] 86)) by go_grown)
  have eb : (b != 0) = true := by simpa using hb
  rw [h] at Ha
  clear h hn hb
  go_enter Tryz.func34, Tryz.ntmps34
  go_wp2_with fail
  refine (Ha.out _).mono ?_
  rintro e w1 ⟨rfl, rfl⟩
  go_wp2_with (first | (go_at_call 33; refine (Hq.out _).mono ?_; rintro e wR ⟨rfl, rfl⟩))
  refine wp_loop_rounds 3 ?_
  repeat any_goals (rw [rounds_succ]; go_wp2_with fail)
  go_ret
  exact ⟨rfl, HB.out⟩
set_option maxRecDepth 100000 in
set_option maxHeartbeats 3200000 in
theorem ivalidG_11 (k a c n : Int) (w : World) (hn : 1 ≤ n ∧ n ≤ 4) (h : ar k = 1) (hc : c ≠ 0) :
    Calls Tryz.prog 34 #[(.agg #[.int .i64 (Gt.mk k a 0 c).k, .int .i64 (Gt.mk k a 0 c).a, .int .i64 (Gt.mk k a 0 c).b, .int .i64 (Gt.mk k a 0 c).c]), .int .i64 n] w fun e w' => e = .returned (.bool false) ∧ Below w.heap.size w w' := by
  have Ha := Lib.hid (fun w => iar0 k w)
  have Hq := Lib.hid (fun w => iisq_yes n w hn)
  have HB := Lib.hid (show Below w.heap.size w ((w.alloc (.cells #[.int .i64 (Gt.mk k a 0 c).k, .int .i64 (Gt.mk k a 0 c).a, .int .i64 (Gt.mk k a 0 c).b, .int .i64 (Gt.mk k a 0 c).c] 44)).alloc (.cells #[.int .i64 a, .int .i64 0, .int .i64 c] 86)) by go_grown)
  have ec : (c != 0) = true := by simpa using hc
  rw [h] at Ha
  clear h hn hc
  go_enter Tryz.func34, Tryz.ntmps34
  go_wp2_with fail
  refine (Ha.out _).mono ?_
  rintro e w1 ⟨rfl, rfl⟩
  go_wp2_with (first | (go_at_call 33; refine (Hq.out _).mono ?_; rintro e wR ⟨rfl, rfl⟩))
  refine wp_loop_rounds 3 ?_
  repeat any_goals (rw [rounds_succ]; go_wp2_with fail)
  go_ret
  exact ⟨rfl, HB.out⟩
set_option maxRecDepth 100000 in
set_option maxHeartbeats 3200000 in
theorem ivalidG_12 (k a n : Int) (w : World) (hn : 1 ≤ n ∧ n ≤ 4) (h : ar k = 1) :
    Calls Tryz.prog 34 #[(.agg #[.int .i64 (Gt.mk k a 0 0).k, .int .i64 (Gt.mk k a 0 0).a, .int .i64 (Gt.mk k a 0 0).b, .int .i64 (Gt.mk k a 0 0).c]), .int .i64 n] w fun e w' => e = .returned (.bool (dq [a] n)) ∧ Below w.heap.size w w' := by
  have Ha := Lib.hid (fun w => iar0 k w)
  have Hq := Lib.hid (fun w => iisq_yes n w hn)
  have HB := Lib.hid (show Below w.heap.size w ((w.alloc (.cells #[.int .i64 (Gt.mk k a 0 0).k, .int .i64 (Gt.mk k a 0 0).a, .int .i64 (Gt.mk k a 0 0).b, .int .i64 (Gt.mk k a 0 0).c] 44)).alloc (.cells #[.int .i64 a, .int .i64 0, .int .i64 0] 86)) by go_grown)
  have hrow : AR ((w.alloc (.cells #[.int .i64 (Gt.mk k a 0 0).k, .int .i64 (Gt.mk k a 0 0).a, .int .i64 (Gt.mk k a 0 0).b, .int .i64 (Gt.mk k a 0 0).c] 44)).alloc (.cells #[.int .i64 a, .int .i64 0, .int .i64 0] 86)) (w.heap.size + 1) [a] := by
    have h := heap_alloc_new (w.alloc (.cells #[.int .i64 (Gt.mk k a 0 0).k, .int .i64 (Gt.mk k a 0 0).a, .int .i64 (Gt.mk k a 0 0).b, .int .i64 (Gt.mk k a 0 0).c] 44)) (.cells #[.int .i64 a, .int .i64 0, .int .i64 0] 86)
    rw [show (w.alloc (.cells #[.int .i64 (Gt.mk k a 0 0).k, .int .i64 (Gt.mk k a 0 0).a, .int .i64 (Gt.mk k a 0 0).b, .int .i64 (Gt.mk k a 0 0).c] 44)).heap.size = w.heap.size + 1 by simp] at h
    exact ⟨_, _, h, rfl⟩
  have Hd := Lib.hid (idist (w.heap.size + 1) 3 [a] n _ hrow (by simp) (by simp))
  clear hrow
  generalize dq [a] n = D at *
  rw [h] at Ha
  clear h hn
  go_enter Tryz.func34, Tryz.ntmps34
  go_wp2_with fail
  refine (Ha.out _).mono ?_
  rintro e w1 ⟨rfl, rfl⟩
  go_wp2_with (first | (go_at_call 33; refine (Hq.out _).mono ?_; rintro e wR ⟨rfl, rfl⟩))
  refine wp_loop_rounds 3 ?_
  repeat any_goals (rw [rounds_succ]; go_wp2_with fail)
  refine (Hd.out).mono ?_
  rintro e w2 ⟨rfl, rfl⟩
  go_wp2_with fail
  go_ret
  exact ⟨rfl, HB.out⟩
set_option maxRecDepth 100000 in
set_option maxHeartbeats 3200000 in
theorem ivalidG_20 (k a b c n : Int) (w : World) (hn : 1 ≤ n ∧ n ≤ 4) (h : ar k = 2) (hc : c ≠ 0) :
    Calls Tryz.prog 34 #[(.agg #[.int .i64 (Gt.mk k a b c).k, .int .i64 (Gt.mk k a b c).a, .int .i64 (Gt.mk k a b c).b, .int .i64 (Gt.mk k a b c).c]), .int .i64 n] w fun e w' => e = .returned (.bool false) ∧ Below w.heap.size w w' := by
  have Ha := Lib.hid (fun w => iar0 k w)
  have Hq := Lib.hid (fun w => iisq_yes n w hn)
  have HB := Lib.hid (show Below w.heap.size w ((w.alloc (.cells #[.int .i64 (Gt.mk k a b c).k, .int .i64 (Gt.mk k a b c).a, .int .i64 (Gt.mk k a b c).b, .int .i64 (Gt.mk k a b c).c] 44)).alloc (.cells #[.int .i64 a, .int .i64 b, .int .i64 c] 86)) by go_grown)
  have ec : (c != 0) = true := by simpa using hc
  rw [h] at Ha
  clear h hn hc
  go_enter Tryz.func34, Tryz.ntmps34
  go_wp2_with fail
  refine (Ha.out _).mono ?_
  rintro e w1 ⟨rfl, rfl⟩
  go_wp2_with (first | (go_at_call 33; refine (Hq.out _).mono ?_; rintro e wR ⟨rfl, rfl⟩))
  refine wp_loop_rounds 3 ?_
  repeat any_goals (rw [rounds_succ]; go_wp2_with fail)
  go_ret
  exact ⟨rfl, HB.out⟩
set_option maxRecDepth 100000 in
set_option maxHeartbeats 3200000 in
theorem ivalidG_21 (k a b n : Int) (w : World) (hn : 1 ≤ n ∧ n ≤ 4) (h : ar k = 2) :
    Calls Tryz.prog 34 #[(.agg #[.int .i64 (Gt.mk k a b 0).k, .int .i64 (Gt.mk k a b 0).a, .int .i64 (Gt.mk k a b 0).b, .int .i64 (Gt.mk k a b 0).c]), .int .i64 n] w fun e w' => e = .returned (.bool (dq [a, b] n)) ∧ Below w.heap.size w w' := by
  have Ha := Lib.hid (fun w => iar0 k w)
  have Hq := Lib.hid (fun w => iisq_yes n w hn)
  have HB := Lib.hid (show Below w.heap.size w ((w.alloc (.cells #[.int .i64 (Gt.mk k a b 0).k, .int .i64 (Gt.mk k a b 0).a, .int .i64 (Gt.mk k a b 0).b, .int .i64 (Gt.mk k a b 0).c] 44)).alloc (.cells #[.int .i64 a, .int .i64 b, .int .i64 0] 86)) by go_grown)
  have hrow : AR ((w.alloc (.cells #[.int .i64 (Gt.mk k a b 0).k, .int .i64 (Gt.mk k a b 0).a, .int .i64 (Gt.mk k a b 0).b, .int .i64 (Gt.mk k a b 0).c] 44)).alloc (.cells #[.int .i64 a, .int .i64 b, .int .i64 0] 86)) (w.heap.size + 1) [a, b] := by
    have h := heap_alloc_new (w.alloc (.cells #[.int .i64 (Gt.mk k a b 0).k, .int .i64 (Gt.mk k a b 0).a, .int .i64 (Gt.mk k a b 0).b, .int .i64 (Gt.mk k a b 0).c] 44)) (.cells #[.int .i64 a, .int .i64 b, .int .i64 0] 86)
    rw [show (w.alloc (.cells #[.int .i64 (Gt.mk k a b 0).k, .int .i64 (Gt.mk k a b 0).a, .int .i64 (Gt.mk k a b 0).b, .int .i64 (Gt.mk k a b 0).c] 44)).heap.size = w.heap.size + 1 by simp] at h
    exact ⟨_, _, h, rfl⟩
  have Hd := Lib.hid (idist (w.heap.size + 1) 3 [a, b] n _ hrow (by simp) (by simp))
  clear hrow
  generalize dq [a, b] n = D at *
  rw [h] at Ha
  clear h hn
  go_enter Tryz.func34, Tryz.ntmps34
  go_wp2_with fail
  refine (Ha.out _).mono ?_
  rintro e w1 ⟨rfl, rfl⟩
  go_wp2_with (first | (go_at_call 33; refine (Hq.out _).mono ?_; rintro e wR ⟨rfl, rfl⟩))
  refine wp_loop_rounds 3 ?_
  repeat any_goals (rw [rounds_succ]; go_wp2_with fail)
  refine (Hd.out).mono ?_
  rintro e w2 ⟨rfl, rfl⟩
  go_wp2_with fail
  go_ret
  exact ⟨rfl, HB.out⟩
set_option maxRecDepth 100000 in
set_option maxHeartbeats 3200000 in
theorem ivalidG_30 (k a b c n : Int) (w : World) (hn : 1 ≤ n ∧ n ≤ 4) (h : ar k = 3) :
    Calls Tryz.prog 34 #[(.agg #[.int .i64 (Gt.mk k a b c).k, .int .i64 (Gt.mk k a b c).a, .int .i64 (Gt.mk k a b c).b, .int .i64 (Gt.mk k a b c).c]), .int .i64 n] w fun e w' => e = .returned (.bool (dq [a, b, c] n)) ∧ Below w.heap.size w w' := by
  have Ha := Lib.hid (fun w => iar0 k w)
  have Hq := Lib.hid (fun w => iisq_yes n w hn)
  have HB := Lib.hid (show Below w.heap.size w ((w.alloc (.cells #[.int .i64 (Gt.mk k a b c).k, .int .i64 (Gt.mk k a b c).a, .int .i64 (Gt.mk k a b c).b, .int .i64 (Gt.mk k a b c).c] 44)).alloc (.cells #[.int .i64 a, .int .i64 b, .int .i64 c] 86)) by go_grown)
  have hrow : AR ((w.alloc (.cells #[.int .i64 (Gt.mk k a b c).k, .int .i64 (Gt.mk k a b c).a, .int .i64 (Gt.mk k a b c).b, .int .i64 (Gt.mk k a b c).c] 44)).alloc (.cells #[.int .i64 a, .int .i64 b, .int .i64 c] 86)) (w.heap.size + 1) [a, b, c] := by
    have h := heap_alloc_new (w.alloc (.cells #[.int .i64 (Gt.mk k a b c).k, .int .i64 (Gt.mk k a b c).a, .int .i64 (Gt.mk k a b c).b, .int .i64 (Gt.mk k a b c).c] 44)) (.cells #[.int .i64 a, .int .i64 b, .int .i64 c] 86)
    rw [show (w.alloc (.cells #[.int .i64 (Gt.mk k a b c).k, .int .i64 (Gt.mk k a b c).a, .int .i64 (Gt.mk k a b c).b, .int .i64 (Gt.mk k a b c).c] 44)).heap.size = w.heap.size + 1 by simp] at h
    exact ⟨_, _, h, rfl⟩
  have Hd := Lib.hid (idist (w.heap.size + 1) 3 [a, b, c] n _ hrow (by simp) (by simp))
  clear hrow
  generalize dq [a, b, c] n = D at *
  rw [h] at Ha
  clear h hn
  go_enter Tryz.func34, Tryz.ntmps34
  go_wp2_with fail
  refine (Ha.out _).mono ?_
  rintro e w1 ⟨rfl, rfl⟩
  go_wp2_with (first | (go_at_call 33; refine (Hq.out _).mono ?_; rintro e wR ⟨rfl, rfl⟩))
  refine wp_loop_rounds 3 ?_
  repeat any_goals (rw [rounds_succ]; go_wp2_with fail)
  refine (Hd.out).mono ?_
  rintro e w2 ⟨rfl, rfl⟩
  go_wp2_with fail
  go_ret
  exact ⟨rfl, HB.out⟩
theorem ivalidG (g : Gt) (n : Int) (w : World) (n0 : -9223372036854775808 ≤ n) (n1 : n ≤ 9223372036854775807) : Calls Tryz.prog 34 #[(.agg #[.int .i64 g.k, .int .i64 g.a, .int .i64 g.b, .int .i64 g.c]), .int .i64 n] w fun e w' => e = .returned (.bool (gtB g n)) ∧ Below w.heap.size w w' := by
  by_cases hn : 1 ≤ n ∧ n ≤ 4
  · obtain ⟨k, a, b, c⟩ := g
    have h3 := ar_le k
    rcases (show ar k = 0 ∨ ar k = 1 ∨ ar k = 2 ∨ ar k = 3 by omega) with h | h | h | h
    · rw [gtB_zero h]; exact ivalidG_zero _ n w hn h
    · rw [gtB_1 h hn]
      by_cases hb : b = 0
      · subst hb
        by_cases hc : c = 0
        · subst hc
          rw [show (decide ((0 : Int) = 0) && decide ((0 : Int) = 0) && dq [a] n) = dq [a] n by simp]
          exact ivalidG_12 k a n w hn h
        · rw [decide_eq_false hc, Bool.and_false, Bool.false_and]
          exact ivalidG_11 k a c n w hn h hc
      · rw [decide_eq_false hb, Bool.false_and, Bool.false_and]
        exact ivalidG_10 k a b c n w hn h hb
    · rw [gtB_2 h hn]
      by_cases hc : c = 0
      · subst hc
        rw [show (decide ((0 : Int) = 0) && dq [a, b] n) = dq [a, b] n by simp]
        exact ivalidG_21 k a b n w hn h
      · rw [decide_eq_false hc, Bool.false_and]
        exact ivalidG_20 k a b c n w hn h hc
    · rw [gtB_3 h hn]; exact ivalidG_30 k a b c n w hn h
  · rw [gtB_no hn]; exact ivalidG_no g n w hn n0 n1
end Go.Proofs.YtckfklpgnneodaaGreat
namespace Go.Proofs.YtckfklpgnneodaaGreat
end Go.Proofs.YtckfklpgnneodaaGreat
namespace Go.Proofs.YtckfklpgnneodaaGreat
open Go.RowKit
attribute [local irreducible] World.cell?
set_option maxRecDepth 100000 in
set_option maxHeartbeats 3200000 in
theorem ivalidC (B : Nat) (n : Int) (v : Value) (l : List Gt) (w : World) (hv : gtE.Sl w B v l) (hm : l.length ≤ 1048576) (n0 : -9223372036854775808 ≤ n) (n1 : n ≤ 9223372036854775807) :
    Calls Tryz.prog 16 #[.agg #[.int .i64 n, v]] w fun e w' => e = .returned (.bool (ciB n l)) ∧ Below w.heap.size w w' := by
  obtain ⟨a, cap, rfl, hcap, hr⟩ := hv
  have Hr := Lib.hid hr
  clear hr
  have HC0 := Lib.hid (heap_alloc_new w (.cells #[.int .i64 n, .slice a l.length cap] 26))
  have Hb0 := Lib.hid (show Below w.heap.size w (w.alloc (.cells #[.int .i64 n, .slice a l.length cap] 26)) by go_grown)
  obtain ⟨p0, p1⟩ := blk_cells2 HC0.out
  have hCl := lt_of_block HC0.out
  obtain ⟨T, hT⟩ : ∃ T, T = ciB n l := ⟨_, rfl⟩
  rw [← hT]
  have HT := Lib.hid (hT.trans (show ciB n l = (l.all (fun g => gtB g n) && (decide (1 ≤ n ∧ n ≤ 4) && decide (l.length ≤ 60))) from rfl))
  clear hT
  by_cases hn : 1 ≤ n ∧ n ≤ 4
  · have Hq := Lib.hid (fun w => iisq_yes n w hn)
    have HG := Lib.hid (fun x W => ivalidG x n W n0 n1)
    have HT1 := Lib.hid (HT.out.trans (by rw [decide_eq_true hn, Bool.true_and]))
    clear hn HT
    by_cases h60 : l.length ≤ 60
    · have HT2 := Lib.hid (HT1.out.trans (by rw [decide_eq_true h60, Bool.and_true]))
      clear HT1
      go_enter Tryz.func16, Tryz.ntmps16
      go_wp2_with (first | (go_at_call 33; refine (Hq.out _).mono ?_; rintro e wR ⟨rfl, rfl⟩))
      go_loopg [18] l.length (fun m i wr => ∃ j : Nat, m = l.length - j ∧ j ≤ l.length ∧ i = .int .i64 j ∧ Hid ((l.take j).all (fun g => gtB g n) = true) ∧ Hid (wr.heap[w.heap.size]? = some (.cells #[.int .i64 n, .slice a l.length cap] 26 (0, 0))) ∧ Hid (Below w.heap.size w wr))
      case atStart => exact ⟨0, rfl, Nat.zero_le _, rfl, rfl, HC0, Hb0⟩
      case round =>
        obtain ⟨j, rfl, hj, rfl, Hyes, HC, Hb⟩ := hrel
        clear p0 p1 hCl
        obtain ⟨p0, p1⟩ := blk_cells2 HC.out
        have hCl := lt_of_block HC.out
        have hsw := Hb.out.size
        by_cases hlt : j < l.length
        · obtain ⟨g, rfl, _, hrow⟩ := Hr.out (by omega)
          obtain ⟨x, hx⟩ : ∃ x, l[j]? = some x := ⟨l[j], List.getElem?_eq_getElem hlt⟩
          have r1 := hrow.below Hb.out hrow.lt
          obtain ⟨c0, c1, c2, c3⟩ := GRow.cells r1 hx
          have hgl := r1.lt
          have HX := Lib.hid (heap_alloc_new wr (.cells #[.int .i64 x.k, .int .i64 x.a, .int .i64 x.b, .int .i64 x.c] 44))
          have HC2 := Lib.hid (alloc_blk (.cells #[.int .i64 x.k, .int .i64 x.a, .int .i64 x.b, .int .i64 x.c] 44) HC.out)
          obtain ⟨q0, q1⟩ := blk_cells2 HC2.out
          have Hb' := Lib.hid (show Below w.heap.size w (wr.alloc (.cells #[.int .i64 x.k, .int .i64 x.a, .int .i64 x.b, .int .i64 x.c] 44)) from Hb.out.alloc hsw _)
          have Hat := Lib.hid (all_take (p := fun g => gtB g n) hx Hyes.out)
          have Hno := Lib.hid (fun h => all_no (p := fun g => gtB g n) hx h)
          have Hc := Lib.hid (fun W => HG.out x W)
          clear hrow r1 hx
          generalize gtB x n = t at *
          go_wp2_with fail
          refine (Hc.out _).mono ?_
          rintro e w4 ⟨rfl, hb4⟩
          have HC4 := Lib.hid (below_blk hb4 (lt_of_block HC2.out) HC2.out)
          have Hb4 := Lib.hid (below_nx Hb'.out hb4)
          have hs4 := Hb4.out.size
          clear hb4 c0 c1 c2 c3 hgl
          cases t with
          | true =>
            clear Hno
            go_wp2_with fail
            go_roundg (l.length - (j + 1))
            case measure => omega
            case rel => exact ⟨j + 1, rfl, by omega, by go_num, Hat, HC4, Hb4⟩
          | false =>
            obtain rfl : T = false := HT2.out.trans (Hno.out rfl)
            clear Hno
            go_wp2_with fail
            go_ret
            exact ⟨rfl, Hb4.out⟩
        · obtain rfl : j = l.length := by omega
          have hall := Hyes.out
          rw [List.take_length] at hall
          obtain rfl : T = true := HT2.out.trans hall
          clear hall
          go_wp2_with fail
          go_ret
          exact ⟨rfl, Hb.out⟩
    · obtain rfl : T = false := HT1.out.trans (by rw [decide_eq_false h60, Bool.and_false])
      have h61 : ¬ l.length ≤ 60 := h60
      clear HT1 h60 HG
      go_enter Tryz.func16, Tryz.ntmps16
      go_wp2_with (first | (go_at_call 33; refine (Hq.out _).mono ?_; rintro e wR ⟨rfl, rfl⟩))
      go_ret
      exact ⟨rfl, Hb0.out⟩
  · have Hq := Lib.hid (fun w => iisq_no n w hn n0 n1)
    obtain rfl : T = false := HT.out.trans (by rw [decide_eq_false hn, Bool.false_and, Bool.and_false])
    clear hn HT
    go_enter Tryz.func16, Tryz.ntmps16
    go_wp2_with (first | (go_at_call 33; refine (Hq.out _).mono ?_; rintro e wR ⟨rfl, rfl⟩))
    go_ret
    exact ⟨rfl, Hb0.out⟩
end Go.Proofs.YtckfklpgnneodaaGreat
