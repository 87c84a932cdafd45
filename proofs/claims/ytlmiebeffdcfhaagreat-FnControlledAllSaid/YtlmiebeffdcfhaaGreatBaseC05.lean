/- BaseC05: several of our texts in one: InvL GsL BaseB09 GtKb GtKc GBx MtO MtN MtS Ent BaseB13 ApKa DsKs MtKp DsG DmO. -/
import Derived.Test.YtlmiebeffdcfhaaGreatBaseB11
import Derived.Test.YtlmiebeffdcfhaaGreatBaseB08
import Derived.Test.YtlmiebeffdcfhaaGreatBaseC06
import Derived.Test.YtlmiebeffdcfhaaGreatBaseC03
import Derived.Deep.Slices
import Derived.Test.YtlmiebeffdcfhaaGreatBaseB12
import Derived.Test.YtlmiebeffdcfhaaGreatMtR
import Derived.Test.YtlmiebeffdcfhaaGreatSnH
import Derived.Test.YtlmiebeffdcfhaaGreatBaseB06
import Derived.Test.YtlmiebeffdcfhaaGreatBaseC01
import Derived.OrdersHeld
import Derived.Test.YtlmiebeffdcfhaaGreatBaseB05
import Derived.Test.YtlmiebeffdcfhaaGreatPhF
import Derived.Test.YtlmiebeffdcfhaaGreatDsKc
import Derived.Test.YtlmiebeffdcfhaaGreatBaseB22
namespace Go.Proofs.YtlmiebeffdcfhaaGreat
open Go.RowKit
/-- Gates undone. -/
def invL (L : List Gt) : List Gt := (L.map invG).reverse
theorem invL_len (L : List Gt) : (invL L).length = L.length := by simp [invL]
theorem invL_at {L : List Gt} {q : Nat} {x : Gt} (hx : L[q]? = some x) : (invL L)[L.length - (q + 1)]? = some (invG x) := by
  have hq : q < L.length := by
    rcases Nat.lt_or_ge q L.length with h' | h'
    · exact h'
    · rw [List.getElem?_eq_none h'] at hx; cases hx
  rw [invL, List.getElem?_reverse (by rw [List.length_map]; omega), List.getElem?_map, List.length_map, show L.length - 1 - (L.length - (q + 1)) = q by omega, hx]
  rfl
theorem infoG3 : (Tryz.prog.info? 25).map (fun i => (i.zero, i.size, i.bytes)) = some (some (.agg #[.int .i64 0, .int .i64 0, .int .i64 0, .int .i64 0]), 4, 32) := by kernel_rfl
end Go.Proofs.YtlmiebeffdcfhaaGreat
namespace Go.Proofs.YtlmiebeffdcfhaaGreat
open Go.RowKit
/-- A slice of the laws' gates that came in. -/
def GsIn (w : World) (B : Nat) (a0 : Option Addr) (l : List Gt) : Prop :=
  l.length ≤ maxLen ∧
  (0 < l.length → ∃ b off, a0 = some ⟨b, off, none⟩ ∧ b < B ∧ ∀ j x, l[j]? = some x → w.cell? ⟨b, off + j * 4, none⟩ = some (.int .i64 x.k) ∧ w.cell? ⟨b, off + j * 4 + 1, none⟩ = some (.int .i64 x.a) ∧ w.cell? ⟨b, off + j * 4 + 2, none⟩ = some (.int .i64 x.b) ∧ w.cell? ⟨b, off + j * 4 + 3, none⟩ = some (.int .i64 x.c))
theorem GsIn.below {w w' : World} {B : Nat} {a0 : Option Addr} {l : List Gt} (h : GsIn w B a0 l) (hb : Below B w w') : GsIn w' B a0 l :=
  ⟨h.1, fun h0 => by
    obtain ⟨b, off, e, hlt, hc⟩ := h.2 h0
    refine ⟨b, off, e, hlt, fun j x hx => ?_⟩
    obtain ⟨c0, c1, c2, c3⟩ := hc j x hx
    exact ⟨(hb.cell (by exact hlt)).trans c0, (hb.cell (by exact hlt)).trans c1, (hb.cell (by exact hlt)).trans c2, (hb.cell (by exact hlt)).trans c3⟩⟩
theorem GsIn.mono {w : World} {B C : Nat} {a0 : Option Addr} {l : List Gt} (h : GsIn w B a0 l) (hC : B ≤ C) : GsIn w C a0 l :=
  ⟨h.1, fun h0 => by obtain ⟨b, off, e, hlt, hc⟩ := h.2 h0; exact ⟨b, off, e, by omega, hc⟩⟩
theorem GsIn.of_sl {w : World} {B : Nat} {v : Value} {l : List Gt} (h : gtE.Sl w B v l) (hm : l.length ≤ 1048576) : ∃ a cap, v = .slice a l.length cap ∧ GsIn w w.heap.size a l := by
  obtain ⟨a, cap, e, -, h3⟩ := h
  refine ⟨a, cap, e, by unfold maxLen; omega, fun h0 => ?_⟩
  obtain ⟨g, e, -, hr⟩ := h3 h0
  refine ⟨g, 0, e, hr.lt, fun j x hx => ?_⟩
  rw [Nat.zero_add]
  exact GRow.cells hr hx
/-- A part of such a slice. -/
theorem GsIn.drop {w : World} {B g off : Nat} {l : List Gt} (h : GsIn w B (some ⟨g, off, none⟩) l) (k : Nat) : GsIn w B (some ⟨g, off + k * 4, none⟩) (l.drop k) := by
  refine ⟨Nat.le_trans (by rw [List.length_drop]; omega) h.1, fun h0 => ?_⟩
  rw [List.length_drop] at h0
  obtain ⟨b, o, e, hb, hc⟩ := h.2 (by omega)
  injection e with e
  injection e with e1 e2
  subst e1 e2
  refine ⟨_, _, rfl, hb, fun j x hx => ?_⟩
  rw [List.getElem?_drop] at hx
  have := hc (k + j) x hx
  rwa [show off + (k + j) * 4 = off + k * 4 + j * 4 by rw [Nat.add_mul]; omega] at this
def zeroG : Gt := ⟨0, 0, 0, 0⟩
/-- A gate written into a row, cell by cell. -/
theorem GRow.put {w : World} {g : Nat} {l : List Gt} (h : gtE.Row w g l) {j : Nat} (hj : j < l.length) (x : Gt) :
    gtE.Row ((((w.setCell ⟨g, j * 4, none⟩ (.int .i64 x.k)).setCell ⟨g, j * 4 + 1, none⟩ (.int .i64 x.a)).setCell ⟨g, j * 4 + 2, none⟩ (.int .i64 x.b)).setCell ⟨g, j * 4 + 3, none⟩ (.int .i64 x.c)) g (l.set j x) := by
  obtain ⟨y, hy⟩ : ∃ y, l[j]? = some y := ⟨l[j], List.getElem?_eq_getElem hj⟩
  have h1 := h.put1 (o := 0) (v := .int .i64 x.k) (y := ⟨x.k, y.a, y.b, y.c⟩) hy (by decide) rfl
  have h2 := h1.put1 (j := j) (o := 1) (v := .int .i64 x.a) (x := ⟨x.k, y.a, y.b, y.c⟩) (y := ⟨x.k, x.a, y.b, y.c⟩) (by rw [List.getElem?_set_self hj]) (by decide) rfl
  rw [List.set_set] at h2
  have h3 := h2.put1 (j := j) (o := 2) (v := .int .i64 x.b) (x := ⟨x.k, x.a, y.b, y.c⟩) (y := ⟨x.k, x.a, x.b, y.c⟩) (by rw [List.getElem?_set_self hj]) (by decide) rfl
  rw [List.set_set] at h3
  have h4 := h3.put1 (j := j) (o := 3) (v := .int .i64 x.c) (x := ⟨x.k, x.a, x.b, y.c⟩) (y := x) (by rw [List.getElem?_set_self hj]) (by decide) rfl
  rw [List.set_set] at h4
  exact h4
/-- Two gates of rows beside each other. -/
def E2G (w : World) (g g' o : Nat) (x y : Gt) (w' : World) : Prop :=
  w'.cell? ⟨g, o, none⟩ = some (.int .i64 x.k) ∧ w'.cell? ⟨g, o + 1, none⟩ = some (.int .i64 x.a) ∧ w'.cell? ⟨g, o + 2, none⟩ = some (.int .i64 x.b) ∧ w'.cell? ⟨g, o + 3, none⟩ = some (.int .i64 x.c) ∧
  w'.cell? ⟨g', o, none⟩ = some (.int .i64 y.k) ∧ w'.cell? ⟨g', o + 1, none⟩ = some (.int .i64 y.a) ∧ w'.cell? ⟨g', o + 2, none⟩ = some (.int .i64 y.b) ∧ w'.cell? ⟨g', o + 3, none⟩ = some (.int .i64 y.c) ∧ g < w'.heap.size ∧ g' < w'.heap.size ∧ Below w.heap.size w w'
theorem E2G.drew {w w' : World} {g g' o : Nat} {x y : Gt} (h : E2G w g g' o x y w') : E2G w g g' o x y w'.drew :=
  let ⟨a0, a1, a2, a3, b0, b1, b2, b3, z, z', l⟩ := h; ⟨a0, a1, a2, a3, b0, b1, b2, b3, z, z', l.drew⟩
theorem E2G.below {w w1 w2 : World} {g g' o : Nat} {x y : Gt} (h : E2G w g g' o x y w1) (hb : Below w1.heap.size w1 w2) : E2G w g g' o x y w2 :=
  let ⟨a0, a1, a2, a3, b0, b1, b2, b3, z, z', l⟩ := h
  ⟨cell_below a0 hb z, cell_below a1 hb z, cell_below a2 hb z, cell_below a3 hb z, cell_below b0 hb z', cell_below b1 hb z', cell_below b2 hb z', cell_below b3 hb z', Nat.lt_of_lt_of_le z hb.size, Nat.lt_of_lt_of_le z' hb.size, below_up l hb l.size⟩
theorem E2G.low {w w' : World} {g g' o : Nat} {x y : Gt} (h : E2G w g g' o x y w') : Below w.heap.size w w' := let ⟨_, _, _, _, _, _, _, _, _, _, l⟩ := h; l
attribute [local irreducible] World.cell?
end Go.Proofs.YtlmiebeffdcfhaaGreat
namespace Go.Proofs.YtlmiebeffdcfhaaGreat
open Go.RowKit
/-- areDistinctQubits. -/
def dqOk (l : List Int) (n : Int) (j : Nat) : Bool := decide (0 ≤ l.getD j 0 ∧ l.getD j 0 < n) && !decide (l.getD j 0 ∈ l.take j)
def dq (l : List Int) (n : Int) : Bool := (List.range l.length).all (dqOk l n)
theorem wrapN {n : Int} (h : 1 ≤ n ∧ n ≤ 4) : IntKind.i64.wrap (n - 1) = n - 1 := by
  rcases (show n = 1 ∨ n = 2 ∨ n = 3 ∨ n = 4 by omega) with rfl | rfl | rfl | rfl <;> decide +kernel
theorem range3 : List.range 3 = [0, 1, 2] := by decide
theorem range2 : List.range 2 = [0, 1] := by decide
theorem range1 : List.range 1 = [0] := by decide
theorem upTo (x n : Int) : decide (0 ≤ x ∧ x ≤ n - 1) = decide (0 ≤ x ∧ x < n) := decide_eq_decide.2 (by omega)
theorem gtB_no {g : Gt} {n : Int} (h : ¬ (1 ≤ n ∧ n ≤ 4)) : gtB g n = false := by unfold gtB; rw [decide_eq_false h]; simp
theorem gtB_zero {g : Gt} {n : Int} (h : ar g.k = 0) : gtB g n = false := by unfold gtB; rw [h]; simp
theorem gtB_1 {k a b c n : Int} (h : ar k = 1) (hn : 1 ≤ n ∧ n ≤ 4) : gtB ⟨k, a, b, c⟩ n = (decide (b = 0) && decide (c = 0) && dq [a] n) := by
  unfold gtB gtOk dq dqOk gqs
  simp only [h, wrapN hn, range3, List.length_cons, List.length_nil, Nat.zero_add, range1, List.all_cons, List.all_nil, decide_eq_true hn, upTo]
  simp [Bool.and_comm, Bool.and_left_comm]
theorem gtB_2 {k a b c n : Int} (h : ar k = 2) (hn : 1 ≤ n ∧ n ≤ 4) : gtB ⟨k, a, b, c⟩ n = (decide (c = 0) && dq [a, b] n) := by
  unfold gtB gtOk dq dqOk gqs
  simp only [h, wrapN hn, range3, List.length_cons, List.length_nil, Nat.zero_add, Nat.reduceAdd, range2, List.all_cons, List.all_nil, decide_eq_true hn, upTo]
  simp [Bool.and_comm, Bool.and_left_comm]
theorem gtB_3 {k a b c n : Int} (h : ar k = 3) (hn : 1 ≤ n ∧ n ≤ 4) : gtB ⟨k, a, b, c⟩ n = dq [a, b, c] n := by
  unfold gtB gtOk dq dqOk gqs
  simp only [h, wrapN hn, range3, List.length_cons, List.length_nil, Nat.zero_add, Nat.reduceAdd, List.all_cons, List.all_nil, decide_eq_true hn, upTo]
  simp
theorem gtB_parts {g : Gt} {n : Int} (h : gtB g n = true) : (1 ≤ n ∧ n ≤ 4) ∧ (1 ≤ g.k ∧ g.k ≤ 12) ∧ (0 ≤ g.a ∧ g.a < n) ∧ (0 ≤ g.b ∧ g.b < n) ∧ 0 ≤ g.c ∧ g.c < n := by
  unfold gtB at h
  simp only [Bool.and_eq_true, decide_eq_true_eq] at h
  obtain ⟨hall, hpos, hn⟩ := h
  have hw : IntKind.i64.wrap (n - 1) = n - 1 := by rw [IntKind.wrap_i64]; omega
  rw [hw, List.all_eq_true] at hall
  have hk : 1 ≤ g.k ∧ g.k ≤ 12 := by
    unfold ar at hpos
    repeat' split at hpos
    all_goals omega
  have key : ∀ j, j < 3 → 0 ≤ [g.a, g.b, g.c].getD j 0 ∧ [g.a, g.b, g.c].getD j 0 < n := fun j hj => by
    have h := hall j (List.mem_range.2 hj)
    unfold gtOk at h
    split at h
    · have := of_decide_eq_true h; omega
    · rw [Bool.and_eq_true] at h
      have := of_decide_eq_true h.1
      omega
  exact ⟨hn, hk, key 0 (by omega), key 1 (by omega), key 2 (by omega)⟩
end Go.Proofs.YtlmiebeffdcfhaaGreat
namespace Go.Proofs.YtlmiebeffdcfhaaGreat
end Go.Proofs.YtlmiebeffdcfhaaGreat
namespace Go.Proofs.YtlmiebeffdcfhaaGreat
/-- Two gates share a qubit. -/
def mtG (g h : Gt) : Bool := (gqs g).any fun q => decide (q ∈ gqs h)
def anyG (L : List Gt) (h : Gt) : Bool := L.any fun g => mtG g h
/-- From n downwards: the first layer behind the last that meets h. -/
def atL (M : List (List Gt)) (h : Gt) : Nat → Nat
  | 0 => 0
  | n + 1 => if anyG (M.getD n []) h then n + 1 else atL M h n
def layAt (M : List (List Gt)) (h : Gt) : Nat := atL M h M.length
def layG (M : List (List Gt)) (h : Gt) : List (List Gt) :=
  if layAt M h = M.length then M ++ [[h]] else M.set (layAt M h) (M.getD (layAt M h) [] ++ [h])
def layL : List (List Gt) → List Gt → List (List Gt)
  | M, [] => M
  | M, g :: L => layL (layG M g) L
theorem atL_le (M : List (List Gt)) (h : Gt) : ∀ n, atL M h n ≤ n
  | 0 => Nat.le_refl 0
  | n + 1 => by
    rw [atL]
    split
    · exact Nat.le_refl _
    · exact Nat.le_succ_of_le (atL_le M h n)
theorem layAt_le (M : List (List Gt)) (h : Gt) : layAt M h ≤ M.length := atL_le M h _
theorem layG_len (M : List (List Gt)) (h : Gt) : (layG M h).length = max M.length (layAt M h + 1) := by
  have := layAt_le M h
  unfold layG
  split
  · rename_i e
    rw [List.length_append, e]
    simp
  · rw [List.length_set]; omega
/-- Gates that share no qubit exchanged, again and again. -/
inductive Sw : List Gt → List Gt → Prop
  | refl (L : List Gt) : Sw L L
  | swap (A B : List Gt) (g h : Gt) (L : List Gt) : mtG g h = false → Sw (A ++ h :: g :: B) L → Sw (A ++ g :: h :: B) L
theorem Sw.trans {L M N : List Gt} (h : Sw L M) (k : Sw M N) : Sw L N := by
  induction h with
  | refl _ => exact k
  | swap A B g h L hm _ ih => exact .swap A B g h N hm (ih k)
theorem Sw.behind {L M : List Gt} (h : Sw L M) (B : List Gt) : Sw (L ++ B) (M ++ B) := by
  induction h with
  | refl _ => exact .refl _
  | swap A C g h L hm _ ih =>
    have e : A ++ g :: h :: C ++ B = A ++ g :: h :: (C ++ B) := by simp
    rw [e]
    refine .swap A (C ++ B) g h _ hm ?_
    have e2 : A ++ h :: g :: C ++ B = A ++ h :: g :: (C ++ B) := by simp
    rw [← e2]
    exact ih
/-- A gate's place once another has been laid. -/
theorem atL_set {M : List (List Gt)} {g h : Gt} {at' : Nat} : ∀ {n : Nat}, at' < M.length → atL (M.set at' (M.getD at' [] ++ [g])) h n = if mtG g h = true ∧ at' < n then max (atL M h n) (at' + 1) else atL M h n
  | 0, _ => by simp [atL]
  | n + 1, hl => by
    have ih := atL_set (M := M) (g := g) (h := h) (n := n) hl
    have hle := atL_le M h n
    rw [atL, atL]
    by_cases e : at' = n
    · subst e
      have hg : (M.set at' (M.getD at' [] ++ [g])).getD at' [] = M.getD at' [] ++ [g] := by
        rw [List.getD_eq_getElem?_getD, List.getElem?_set_self hl]; rfl
      have ha : anyG (M.getD at' [] ++ [g]) h = (anyG (M.getD at' []) h || mtG g h) := by unfold anyG; rw [List.any_append]; simp
      rw [hg, ha, ih]
      cases h1 : anyG (M.getD at' []) h <;> cases h2 : mtG g h <;> simp <;> omega
    · have hg : (M.set at' (M.getD at' [] ++ [g])).getD n [] = M.getD n [] := by
        rw [List.getD_eq_getElem?_getD, List.getElem?_set_ne e, ← List.getD_eq_getElem?_getD]
      rw [hg, ih]
      by_cases hm : mtG g h = true
      · by_cases hlt : at' < n
        · cases h1 : anyG (M.getD n []) h <;> simp [hm, hlt, Nat.lt_succ_of_lt hlt] <;> omega
        · have h3 : ¬ at' < n + 1 := by omega
          cases h1 : anyG (M.getD n []) h <;> simp [hlt, h3]
      · cases h1 : anyG (M.getD n []) h <;> simp [hm]
theorem atL_snoc {M : List (List Gt)} {g h : Gt} : ∀ {n : Nat}, n ≤ M.length → atL (M ++ [[g]]) h n = atL M h n
  | 0, _ => rfl
  | n + 1, hl => by
    rw [atL, atL, atL_snoc (M := M) (by omega), List.getD_eq_getElem?_getD, List.getElem?_append_left (by omega), ← List.getD_eq_getElem?_getD]
theorem layAt_lay (M : List (List Gt)) (g h : Gt) : layAt (layG M g) h = if mtG g h = true then max (layAt M h) (layAt M g + 1) else layAt M h := by
  have hle := layAt_le M g
  have hlh := layAt_le M h
  by_cases e : layAt M g = M.length
  · have hG : layG M g = M ++ [[g]] := if_pos e
    have ha : layAt (layG M g) h = if anyG ((M ++ [[g]]).getD M.length []) h then M.length + 1 else atL (M ++ [[g]]) h M.length := by
      rw [hG]; unfold layAt; rw [List.length_append]; rfl
    have hg : (M ++ [[g]]).getD M.length [] = [g] := by rw [List.getD_eq_getElem?_getD]; simp
    have hany : anyG [g] h = mtG g h := by simp [anyG]
    rw [ha, hg, hany, atL_snoc (Nat.le_refl _)]
    show (if mtG g h = true then M.length + 1 else layAt M h) = _
    split
    · omega
    · rfl
  · have hlt : layAt M g < M.length := by omega
    have hG : layG M g = M.set (layAt M g) (M.getD (layAt M g) [] ++ [g]) := if_neg e
    rw [hG]
    show atL _ h (M.set _ _).length = _
    rw [List.length_set, atL_set hlt]
    show (if mtG g h = true ∧ layAt M g < M.length then max (layAt M h) (layAt M g + 1) else layAt M h) = _
    by_cases hm : mtG g h = true
    · rw [if_pos ⟨hm, hlt⟩, if_pos hm]
    · rw [if_neg fun h => hm h.1, if_neg hm]
/-- Layers laid upon d layers, against the same layers laid upon none. -/
def Low (d : Nat) (P Q : List (List Gt)) : Prop := (∀ h, layAt P h ≤ layAt Q h ∧ layAt Q h ≤ d + layAt P h) ∧ P.length ≤ Q.length ∧ Q.length ≤ d + P.length ∧ d ≤ Q.length
theorem Low.lay {d : Nat} {P Q : List (List Gt)} (h : Low d P Q) (g : Gt) : Low d (layG P g) (layG Q g) := by
  obtain ⟨h1, h2, h3, h4⟩ := h
  have hg := h1 g
  refine ⟨fun x => ?_, ?_, ?_, ?_⟩
  · have hx := h1 x
    rw [layAt_lay, layAt_lay]
    split
    · omega
    · exact hx
  · rw [layG_len, layG_len]; omega
  · rw [layG_len, layG_len]; omega
  · rw [layG_len]; omega
theorem Low.all {d : Nat} : ∀ (L : List Gt) {P Q : List (List Gt)}, Low d P Q → Low d (layL P L) (layL Q L)
  | [], _, _, h => h
  | g :: L, _, _, h => by rw [layL, layL]; exact Low.all L (h.lay g)
end Go.Proofs.YtlmiebeffdcfhaaGreat
namespace Go.Proofs.YtlmiebeffdcfhaaGreat
open Go.RowKit
attribute [local irreducible] World.cell?
set_option maxRecDepth 100000 in
set_option maxHeartbeats 1600000 in
theorem iindexI (g cap : Nat) (l : List Int) (x : Int) (w : World) (h : AR w g l) (hm : l.length ≤ 1048576) :
    Calls Tryz.prog 98 #[.slice (some ⟨g, 0, none⟩) l.length cap, .int .i64 x] w fun e w' => (∃ r : Int, e = .returned (.int .i64 r) ∧ (x ∈ l ↔ 0 ≤ r)) ∧ w = w' := by
  have H := Lib.hid h
  clear h
  go_enter Tryz.func98, Tryz.ntmps98
  go_wp2_with fail
  go_loopw [8] (fun i wr => ∃ j : Nat, j ≤ l.length ∧ i = .int .i64 j ∧ Hid (x ∉ l.take j) ∧ w = wr) (fun i _ => l.length - (intOf i).toNat)
  case atStart => exact ⟨0, Nat.zero_le _, rfl, Lib.hid (by simp), rfl⟩
  case round =>
    obtain ⟨j, hj, rfl, Hn, rfl⟩ := hrel
    by_cases hlt : j < l.length
    · obtain ⟨y, hy⟩ : ∃ y, l[j]? = some y := ⟨l[j], List.getElem?_eq_getElem hlt⟩
      have c0 := H.out.cell hy
      have Hy := Lib.hid hy
      clear hy
      by_cases hxy : x = y
      · have he : (x == y) = true := by simpa using hxy
        have hin : x ∈ l := hxy ▸ List.mem_of_getElem? Hy.out
        have Hin := Lib.hid hin
        clear hin hxy
        go_wp2_with fail
        go_ret
        exact ⟨⟨j, rfl, fun _ => by omega, fun _ => Hin.out⟩, rfl⟩
      · have he : (x == y) = false := by simpa using hxy
        have Hn2 := Lib.hid (show x ∉ l.take (j + 1) by
          rw [List.take_add_one, Hy.out]; intro hc
          rcases List.mem_append.1 hc with hc | hc
          · exact Hn.out hc
          · exact hxy (by simpa using hc))
        clear hxy
        go_wp2_with fail
        go_roundw
        case rel => exact ⟨j + 1, by omega, by go_num, Hn2, trivial⟩
        case measure => simp [intOf]; omega
    · obtain rfl : j = l.length := by omega
      have hn := Hn.out
      rw [List.take_length] at hn
      have Hn2 := Lib.hid hn
      clear hn
      go_wp2_with fail
      go_ret
      exact ⟨⟨-1, rfl, fun hc => absurd hc Hn2.out, fun hc => absurd hc (by decide)⟩, rfl⟩
set_option maxRecDepth 100000 in
set_option maxHeartbeats 800000 in
theorem icontI (g cap : Nat) (l : List Int) (x : Int) (w : World) (h : AR w g l) (hm : l.length ≤ 1048576) :
    Calls Tryz.prog 65 #[.slice (some ⟨g, 0, none⟩) l.length cap, .int .i64 x] w fun e w' => e = .returned (.bool (decide (x ∈ l))) ∧ w = w' := by
  have H := Lib.hid (iindexI g cap l x w h hm)
  clear h
  obtain ⟨T, hT⟩ : ∃ T, T = decide (x ∈ l) := ⟨_, rfl⟩
  rw [← hT]
  have HT := Lib.hid hT
  clear hT
  go_enter Tryz.func65, Tryz.ntmps65
  go_wp2_with fail
  refine H.out.mono ?_
  rintro e w1 ⟨⟨r, rfl, hr⟩, rfl⟩
  by_cases h0 : 0 ≤ r
  · obtain rfl : T = true := HT.out.trans (decide_eq_true (hr.2 h0))
    clear hr
    go_wp2_with fail
    go_ret
    exact ⟨by first | rfl | simp [h0], rfl⟩
  · obtain rfl : T = false := HT.out.trans (decide_eq_false (fun hc => h0 (hr.1 hc)))
    clear hr
    go_wp2_with fail
    go_ret
    exact ⟨by first | rfl | simp [h0], rfl⟩
theorem AR.take {w : World} {g : Nat} {l : List Int} (h : AR w g l) (j : Nat) : AR w g (l.take j) := by
  obtain ⟨cs, ty, h1, h2⟩ := h
  refine ⟨cs, ty, h1, ?_⟩
  rw [List.map_take, ← h2, List.take_take, List.length_take]
set_option maxRecDepth 100000 in
set_option maxHeartbeats 3200000 in
theorem idist (g cap : Nat) (l : List Int) (n : Int) (w : World) (h : AR w g l) (hc : l.length ≤ cap) (hm : l.length ≤ 1048576) :
    Calls Tryz.prog 27 #[.slice (some ⟨g, 0, none⟩) l.length cap, .int .i64 n] w fun e w' => e = .returned (.bool (dq l n)) ∧ w = w' := by
  have HC := Lib.hid (fun j x => icontI g cap (l.take j) x w (h.take j) (by rw [List.length_take]; omega))
  have H := Lib.hid h
  clear h
  obtain ⟨T, hT⟩ : ∃ T, T = dq l n := ⟨_, rfl⟩
  rw [← hT]
  have HT := Lib.hid hT
  clear hT
  go_enter Tryz.func27, Tryz.ntmps27
  go_wp2_with fail
  go_loopw [9] (fun i wr => ∃ j : Nat, j ≤ l.length ∧ i = .int .i64 j ∧ Hid (∀ m, m < j → dqOk l n m = true) ∧ w = wr) (fun i _ => l.length - (intOf i).toNat)
  case atStart => exact ⟨0, Nat.zero_le _, rfl, Lib.hid (fun m hm => absurd hm (by omega)), rfl⟩
  case round =>
    obtain ⟨j, hj, rfl, Hn, rfl⟩ := hrel
    by_cases hlt : j < l.length
    · obtain ⟨y, hy⟩ : ∃ y, l[j]? = some y := ⟨l[j], List.getElem?_eq_getElem hlt⟩
      have c0 := H.out.cell hy
      have hD : l.getD j 0 = y := by rw [List.getD_eq_getElem?_getD, hy]; rfl
      have HD := Lib.hid (show dqOk l n j = (decide (0 ≤ y ∧ y < n) && !decide (y ∈ l.take j)) by unfold dqOk; rw [hD])
      have Hc := Lib.hid (HC.out j y)
      rw [show (l.take j).length = j by rw [List.length_take]; omega] at Hc
      have hbad : dqOk l n j = false → T = false := fun hb => HT.out.trans (by
        unfold dq
        rw [Bool.eq_false_iff]
        intro hall
        rw [List.all_eq_true] at hall
        rw [hall j (List.mem_range.2 hlt)] at hb
        cases hb)
      have Hbad := Lib.hid hbad
      clear hy hD hbad
      by_cases h0 : y < 0
      · obtain rfl : T = false := Hbad.out (by rw [HD.out, decide_eq_false (show ¬ (0 ≤ y ∧ y < n) by omega)]; rfl)
        go_wp2_with fail
        go_ret
        exact ⟨rfl, rfl⟩
      · by_cases h1 : y < n
        · have h1' : ¬ n ≤ y := by omega
          by_cases hin : y ∈ l.take j
          · obtain rfl : T = false := Hbad.out (by rw [HD.out, decide_eq_true hin]; simp)
            rw [decide_eq_true hin] at Hc
            clear hin
            go_wp2_with (first | (go_at_call 65; refine (Hc.out).mono ?_; rintro e w1 ⟨rfl, rfl⟩))
            go_ret
            exact ⟨rfl, rfl⟩
          · have Hn2 := Lib.hid (show ∀ m, m < j + 1 → dqOk l n m = true from fun m hm => by
              by_cases he : m = j
              · subst he; rw [HD.out, decide_eq_true (show 0 ≤ y ∧ y < n by omega), decide_eq_false hin]; rfl
              · exact Hn.out m (by omega))
            rw [decide_eq_false hin] at Hc
            clear hin
            go_wp2_with (first | (go_at_call 65; refine (Hc.out).mono ?_; rintro e w1 ⟨rfl, rfl⟩))
            go_roundw
            case rel => exact ⟨j + 1, by omega, by go_num, Hn2, trivial⟩
            case measure => simp [intOf]; omega
        · obtain rfl : T = false := Hbad.out (by rw [HD.out, decide_eq_false (show ¬ (0 ≤ y ∧ y < n) by omega)]; rfl)
          have h1' : n ≤ y := by omega
          go_wp2_with fail
          go_ret
          exact ⟨rfl, rfl⟩
    · obtain rfl : j = l.length := by omega
      obtain rfl : T = true := HT.out.trans (by
        unfold dq
        rw [List.all_eq_true]
        exact fun m hm => Hn.out m (List.mem_range.1 hm))
      go_wp2_with fail
      go_ret
      exact ⟨rfl, rfl⟩
end Go.Proofs.YtlmiebeffdcfhaaGreat
namespace Go.Proofs.YtlmiebeffdcfhaaGreat
open Go.RowKit
/-- The box of a gate lies at B. -/
def GB (w : World) (B : Nat) (g : Gt) (w' : World) : Prop := w'.cell? ⟨B, 0, none⟩ = some (.int .i64 g.k) ∧ w'.cell? ⟨B, 1, none⟩ = some (.int .i64 g.a) ∧ w'.cell? ⟨B, 2, none⟩ = some (.int .i64 g.b) ∧ w'.cell? ⟨B, 3, none⟩ = some (.int .i64 g.c) ∧ B < w'.heap.size ∧ Below w.heap.size w w'
theorem GB.drew {w w1 : World} {B : Nat} {g : Gt} (h : GB w B g w1) : GB w B g w1.drew :=
  let ⟨c0, c1, c2, c3, z0, l⟩ := h; ⟨c0, c1, c2, c3, z0, l.drew⟩
theorem GB.alloc {w w1 : World} {B : Nat} {g : Gt} {o : Obj} (h : GB w B g w1) : GB w B g (w1.alloc o) :=
  let ⟨c0, c1, c2, c3, z0, l⟩ := h
  have e : ∀ k, (w1.alloc o).cell? ⟨B, k, none⟩ = w1.cell? ⟨B, k, none⟩ := fun k => (Below.refl w1.heap.size w1).alloc (Nat.le_refl _) o |>.cell (by exact z0)
  ⟨(e 0).trans c0, (e 1).trans c1, (e 2).trans c2, (e 3).trans c3, by simp; omega, l.alloc l.size o⟩
attribute [local irreducible] World.cell?
set_option maxRecDepth 100000 in
set_option maxHeartbeats 1600000 in
theorem iinvG (g : Gt) (w : World) : Calls Tryz.prog 100 #[(.agg #[.int .i64 g.k, .int .i64 g.a, .int .i64 g.b, .int .i64 g.c])] w fun e w' => e = .returned (.agg #[.int .i64 (invG g).k, .int .i64 (invG g).a, .int .i64 (invG g).b, .int .i64 (invG g).c]) ∧ Below w.heap.size w w' := by
  obtain ⟨k, a, b, c⟩ := g
  have Hk := Lib.hid (fun w => ikind k w)
  rcases kind_cases k with h | h | rfl | h
  · rw [kV_one h] at Hk
    have hk : ar k = 1 := if_pos h
    have h1 := as11
    rw [show invG ⟨k, a, b, c⟩ = ⟨invK k, a, b, c⟩ from rfl]
    clear h hk
    generalize decide (k ≤ 6) = t at *
    generalize invK k = i at *
    go_enter Tryz.func100, Tryz.ntmps100
    go_wp2_with fail
    refine (Hk.out _).mono ?_
    rintro e w1 ⟨rfl, rfl⟩
    go_wp2_with fail
    refine bodyPost_ret (v := (.agg #[.int .i64 (Gt.mk i a b c).k, .int .i64 (Gt.mk i a b c).a, .int .i64 (Gt.mk i a b c).b, .int .i64 (Gt.mk i a b c).c])) (by simp [results, Tryz.results100, go_sem]) rfl ⟨rfl, ?_⟩
    go_grown
  · rw [kV_two h] at Hk
    have hi : invK k = k := by unfold invK; rw [if_neg (by omega), if_neg (by omega), if_neg (by omega), if_neg (by omega)]
    rw [show invG ⟨k, a, b, c⟩ = ⟨k, a, b, c⟩ by unfold invG; rw [hi]]
    have h1 := as21
    clear h hi
    go_enter Tryz.func100, Tryz.ntmps100
    go_wp2_with fail
    refine (Hk.out _).mono ?_
    rintro e w1 ⟨rfl, rfl⟩
    go_wp2_with fail
    refine bodyPost_ret (v := (.agg #[.int .i64 (Gt.mk k a b c).k, .int .i64 (Gt.mk k a b c).a, .int .i64 (Gt.mk k a b c).b, .int .i64 (Gt.mk k a b c).c])) (by simp [results, Tryz.results100, go_sem]) rfl ⟨rfl, ?_⟩
    go_grown
  · have Hk' : Hid (∀ w, Calls Tryz.prog 97 #[.int .i64 12] w fun e w' => e = .returned (.iface 116 (.agg #[])) ∧ w = w') := Hk
    rw [show invG ⟨12, a, b, c⟩ = ⟨12, a, b, c⟩ from rfl]
    clear Hk
    have h1 := as31
    go_enter Tryz.func100, Tryz.ntmps100
    go_wp2_with fail
    refine (Hk'.out _).mono ?_
    rintro e w1 ⟨rfl, rfl⟩
    go_wp2_with fail
    refine bodyPost_ret (v := (.agg #[.int .i64 (Gt.mk 12 a b c).k, .int .i64 (Gt.mk 12 a b c).a, .int .i64 (Gt.mk 12 a b c).b, .int .i64 (Gt.mk 12 a b c).c])) (by simp [results, Tryz.results100, go_sem]) rfl ⟨rfl, ?_⟩
    go_grown
  · rw [kV_no h] at Hk
    have hi : invK k = k := by unfold invK; rw [if_neg (by omega), if_neg (by omega), if_neg (by omega), if_neg (by omega)]
    rw [show invG ⟨k, a, b, c⟩ = ⟨k, a, b, c⟩ by unfold invG; rw [hi]]
    have h1 := as01
    clear h hi
    go_enter Tryz.func100, Tryz.ntmps100
    go_wp2_with fail
    refine (Hk.out _).mono ?_
    rintro e w1 ⟨rfl, rfl⟩
    go_wp2_with fail
    refine bodyPost_ret (v := (.agg #[.int .i64 (Gt.mk k a b c).k, .int .i64 (Gt.mk k a b c).a, .int .i64 (Gt.mk k a b c).b, .int .i64 (Gt.mk k a b c).c])) (by simp [results, Tryz.results100, go_sem]) rfl ⟨rfl, ?_⟩
    go_grown
/-- ActsOn. -/
theorem gqs_row (g : Gt) : (gqs g).length ≤ 3 := by rw [gqs_len]; exact ar_le _
end Go.Proofs.YtlmiebeffdcfhaaGreat
namespace Go.Proofs.YtlmiebeffdcfhaaGreat
open Go.RowKit
/-- A gate's box. -/
def GBx (w : World) (B : Nat) (g : Gt) (w' : World) : Prop := w'.cell? ⟨B, 0, none⟩ = some (.int .i64 g.k) ∧ w'.cell? ⟨B, 1, none⟩ = some (.int .i64 g.a) ∧ w'.cell? ⟨B, 2, none⟩ = some (.int .i64 g.b) ∧ w'.cell? ⟨B, 3, none⟩ = some (.int .i64 g.c) ∧ B < w'.heap.size ∧ Below w.heap.size w w'
theorem GBx.drew {w w1 : World} {B : Nat} {g : Gt} (h : GBx w B g w1) : GBx w B g w1.drew :=
  let ⟨c0, c1, c2, c3, z, l⟩ := h; ⟨c0, c1, c2, c3, z, l.drew⟩
theorem GBx.below {w w1 w2 : World} {B : Nat} {g : Gt} (h : GBx w B g w1) (hb : Below w1.heap.size w1 w2) : GBx w B g w2 :=
  let ⟨c0, c1, c2, c3, z, l⟩ := h; ⟨cell_below c0 hb z, cell_below c1 hb z, cell_below c2 hb z, cell_below c3 hb z, Nat.lt_of_lt_of_le z hb.size, below_up l hb l.size⟩
theorem GBx.alloc {w w1 : World} {B : Nat} {g : Gt} {o : Obj} (h : GBx w B g w1) : GBx w B g (w1.alloc o) :=
  let ⟨c0, c1, c2, c3, z0, l⟩ := h
  have e : ∀ k, (w1.alloc o).cell? ⟨B, k, none⟩ = w1.cell? ⟨B, k, none⟩ := fun k => (Below.refl w1.heap.size w1).alloc (Nat.le_refl _) o |>.cell (by exact z0)
  ⟨(e 0).trans c0, (e 1).trans c1, (e 2).trans c2, (e 3).trans c3, by simp; omega, l.alloc l.size o⟩
end Go.Proofs.YtlmiebeffdcfhaaGreat
namespace Go.Proofs.YtlmiebeffdcfhaaGreat
open Go.ChangeShapes Go.WideShapes Go.ChangeAt Go.RowKit Go.Lib Go.Joins
end Go.Proofs.YtlmiebeffdcfhaaGreat
namespace Go.Proofs.YtlmiebeffdcfhaaGreat
open Go.RowKit
attribute [local irreducible] World.cell?
end Go.Proofs.YtlmiebeffdcfhaaGreat
namespace Go.Proofs.YtlmiebeffdcfhaaGreat
open Go.RowKit
theorem Mid.low {B C : Nat} {w w' : World} (h : Mid B C w w') : w.heap.size ≤ w'.heap.size := h.1.size
end Go.Proofs.YtlmiebeffdcfhaaGreat
namespace Go.Proofs.YtlmiebeffdcfhaaGreat
open Go.RowKit
/-- One entry of row j is written. -/
theorem MRow.entry {w : World} {B C g : Nat} {M : List (List Dw)} (h : MRow w B C g M) {j t : Nat} {r : List Dw} (hr : M[j]? = some r) (ht : t < r.length) :
    ∃ b pc, w.cell? ⟨g, j, none⟩ = some (.slice (some ⟨b, 0, none⟩) r.length pc) ∧ B ≤ b ∧ b < w.heap.size ∧ DRow w b r ∧ r.length ≤ pc ∧ ∀ z : Dw,
      MRow (((((w.setCell ⟨b, t * 5, none⟩ (.int .i64 z.n.a)).setCell ⟨b, t * 5 + 1, none⟩ (.int .i64 z.n.b)).setCell ⟨b, t * 5 + 2, none⟩ (.int .i64 z.n.c)).setCell ⟨b, t * 5 + 3, none⟩ (.int .i64 z.n.d)).setCell ⟨b, t * 5 + 4, none⟩ (.int .i64 z.e)) B C g (M.set j (r.set t z)) := by
  obtain ⟨a, cap, b, c, hc, h1, h2, h3, hd, hk⟩ := h.turn hr
  obtain ⟨a', cap', e, hcap, hrow⟩ := hd
  obtain ⟨b', e', hb, hc', hR⟩ := hrow (by omega)
  injection e with e1 e2 e3
  subst e1 e3
  subst e'
  refine ⟨b', cap, hc, by omega, hR.lt, hR, hcap, fun z => ?_⟩
  refine hk _ (r.set t z) (by simp) ⟨_, _, by rw [List.length_set], by rw [List.length_set]; exact hcap, fun _ => ⟨b', rfl, hb, hc', hR.put t ht z⟩⟩ ?_
  exact (((((Mid.refl b c w).set hb hc' _).set hb hc' _).set hb hc' _).set hb hc' _).set hb hc' _
end Go.Proofs.YtlmiebeffdcfhaaGreat
namespace Go.Proofs.YtlmiebeffdcfhaaGreat
open Go.RowKit
/-- An amplitude sent to its places. -/
def sendO (x : Dw) : List (Nat × Dw) → List Dw → Option (List Dw)
  | [], o => some o
  | p :: r, o => if dMulB x p.2 && dAddB (o.getD p.1 .zero) (dMulV x p.2) then sendO x r (o.set p.1 (dAddV (o.getD p.1 .zero) (dMulV x p.2))) else none
/-- The amplitudes sent one by one. -/
def apO (G : Nat → List (Nat × Dw)) : Nat → List Dw → List Dw → Option (List Dw)
  | _, [], o => some o
  | i, x :: r, o => if x = .zero then apO G (i + 1) r o else match sendO x (G i) o with
    | some o' => apO G (i + 1) r o'
    | none => none
def goesG (g : Gt) (i : Nat) : List (Nat × Dw) := goesL g.k g.a.toNat g.b.toNat g.c.toNat i
def agO (g : Gt) (v : List Dw) : Option (List Dw) := if stB v && gtB g (qc v.length) then apO (goesG g) 0 v (List.replicate v.length .zero) else none
def agV (g : Gt) (v : List Dw) : List Dw := (agO g v).getD []
def agB (g : Gt) (v : List Dw) : Bool := (agO g v).isSome
/-- A gate's box. -/
def G1 (w : World) (b : Nat) (g : Gt) (w' : World) : Prop := w'.cell? ⟨b, 0, none⟩ = some (.int .i64 g.k) ∧ w'.cell? ⟨b, 1, none⟩ = some (.int .i64 g.a) ∧ w'.cell? ⟨b, 2, none⟩ = some (.int .i64 g.b) ∧ w'.cell? ⟨b, 3, none⟩ = some (.int .i64 g.c) ∧ b < w'.heap.size ∧ Below w.heap.size w w'
theorem G1.drew {w w' : World} {b : Nat} {g : Gt} (h : G1 w b g w') : G1 w b g w'.drew := let ⟨b0, b1, b2, b3, z, l⟩ := h; ⟨b0, b1, b2, b3, z, l.drew⟩
theorem G1.below {w w1 w2 : World} {b : Nat} {g : Gt} (h : G1 w b g w1) (hb : Below w1.heap.size w1 w2) : G1 w b g w2 :=
  let ⟨b0, b1, b2, b3, z, l⟩ := h; ⟨cell_below b0 hb z, cell_below b1 hb z, cell_below b2 hb z, cell_below b3 hb z, Nat.lt_of_lt_of_le z hb.size, below_up l hb l.size⟩
theorem G1.low {w w' : World} {b : Nat} {g : Gt} (h : G1 w b g w') : Below w.heap.size w w' := let ⟨_, _, _, _, _, l⟩ := h; l
attribute [local irreducible] World.cell?
set_option maxRecDepth 100000 in
set_option maxHeartbeats 3200000 in
theorem sapG_no0 (B : Nat) (g : Gt) (v : Value) (l : List Dw) (w : World) (hv : DSl w B v l) (hm : l.length ≤ 1048576) (hst : stB l = false) :
    Calls Tryz.prog 35 #[(.agg #[.int .i64 g.k, .int .i64 g.a, .int .i64 g.b, .int .i64 g.c]), v] w fun e w' => (∃ r, e = .returned (.tuple #[r, .bool false]) ∧ DSl w' w.heap.size r []) ∧ Below w.heap.size w w' := by
  have Hb0 := Lib.hid (show Below w.heap.size w (w.alloc (.cells #[.int .i64 g.k, .int .i64 g.a, .int .i64 g.b, .int .i64 g.c] 25)) by go_grown)
  have H1 := Lib.hid (svalidSt B v l (w.alloc (.cells #[.int .i64 g.k, .int .i64 g.a, .int .i64 g.b, .int .i64 g.c] 25)).drew ((hv.below ((Below.refl _ _).alloc (Nat.le_refl _) (.cells #[.int .i64 g.k, .int .i64 g.a, .int .i64 g.b, .int .i64 g.c] 25))).block fun _ _ _ => rfl) hm)
  obtain ⟨c0, c1, c2, c3⟩ := blk_cells (heap_alloc_new w (.cells #[.int .i64 g.k, .int .i64 g.a, .int .i64 g.b, .int .i64 g.c] 25))
  have hS : G1 (w.alloc (.cells #[.int .i64 g.k, .int .i64 g.a, .int .i64 g.b, .int .i64 g.c] 25)) w.heap.size g (w.alloc (.cells #[.int .i64 g.k, .int .i64 g.a, .int .i64 g.b, .int .i64 g.c] 25)) := ⟨c0, c1, c2, c3, by simp, Below.refl _ _⟩
  rw [hst] at H1
  clear hst hv
  go_enter Tryz.func35, Tryz.ntmps35
  go_upto_region 1 with fail
  refine wp_region_held_drew (S := (fun w' => w'.cell? ⟨w.heap.size, 0, none⟩ = some (.int .i64 g.k) ∧ w'.cell? ⟨w.heap.size, 1, none⟩ = some (.int .i64 g.a) ∧ w'.cell? ⟨w.heap.size, 2, none⟩ = some (.int .i64 g.b) ∧ w'.cell? ⟨w.heap.size, 3, none⟩ = some (.int .i64 g.c) ∧ w.heap.size < w'.heap.size ∧ Below (w.alloc (.cells #[.int .i64 g.k, .int .i64 g.a, .int .i64 g.b, .int .i64 g.c] 25)).heap.size (w.alloc (.cells #[.int .i64 g.k, .int .i64 g.a, .int .i64 g.b, .int .i64 g.c] 25)) w')) (by kernel_rfl) ?_ (fun hHeld => ?_)
  · exact hS.drew
  refine wpAnyH_take (i := 0) (oi := _) (v := ?_) op_at0 (by kernel_rfl) (by kernel_rfl) (by kernel_rfl) (fun _ _ _ h => h) (Or.inl ⟨by rfl, ?_⟩) (by assumption) ?_
  rotate_left
  · intro w hSw
    (try dsimp only at hSw)
    go_simp
    (try with_reducible rfl)
  (try simp only [Act.put, List.setIfInBounds_toArray, List.set_cons_zero, List.set_cons_succ])
  refine wpAnyH_ready (rs := [1]) (by kernel_rfl) (by simp) ?_
  refine AllReadyH.cons (o := _) op_at1 (fun K hK => ?_) ?_
  · go_simp
    refine (H1.out).mono ?_
    rintro e wR ⟨rfl, hbR⟩
    go_wp2_with fail
    refine hK.out _ _ ?_ (fun hHeld => ?_)
    · exact hS.drew.below hbR
    clear hK K
    (try simp only [Act.put, List.setIfInBounds_toArray, List.set_cons_zero, List.set_cons_succ])
    refine wpAnyH_take (i := 2) (oi := _) (v := ?_) op_at2 (by kernel_rfl) (by kernel_rfl) (by kernel_rfl) (fun _ _ _ h => h) (Or.inl ⟨by rfl, ?_⟩) (by assumption) ?_
    rotate_left
    · intro w hSw
      (try dsimp only at hSw)
      go_simp
      (try with_reducible rfl)
    (try simp only [Act.put, List.setIfInBounds_toArray, List.set_cons_zero, List.set_cons_succ])
    refine wpAnyH_take (i := 3) (oi := _) (v := ?_) op_at3 (by kernel_rfl) (by kernel_rfl) (by kernel_rfl) (fun _ _ _ h => h) (Or.inl ⟨by rfl, ?_⟩) (by assumption) ?_
    rotate_left
    · intro w hSw
      (try dsimp only at hSw)
      go_simp
      (try with_reducible rfl)
    (try simp only [Act.put, List.setIfInBounds_toArray, List.set_cons_zero, List.set_cons_succ])
    refine wpAnyH_take (i := 4) (oi := _) (v := undef) op_at4 (by kernel_rfl) (by kernel_rfl) (by kernel_rfl) (fun _ _ _ h => h) (Or.inr ⟨by rfl, rfl⟩) (by assumption) ?_
    (try simp only [Act.put, List.setIfInBounds_toArray, List.set_cons_zero, List.set_cons_succ])
    refine wpAnyH_take (i := 5) (oi := _) (v := undef) op_at5 (by kernel_rfl) (by kernel_rfl) (by kernel_rfl) (fun _ _ _ h => h) (Or.inr ⟨by rfl, rfl⟩) (by assumption) ?_
    (try simp only [Act.put, List.setIfInBounds_toArray, List.set_cons_zero, List.set_cons_succ])
    refine wpAnyH_take (i := 6) (oi := _) (v := undef) op_at6 (by kernel_rfl) (by kernel_rfl) (by kernel_rfl) (fun _ _ _ h => h) (Or.inr ⟨by rfl, rfl⟩) (by assumption) ?_
    (try simp only [Act.put, List.setIfInBounds_toArray, List.set_cons_zero, List.set_cons_succ])
    refine wpAnyH_take (i := 7) (oi := _) (v := undef) op_at7 (by kernel_rfl) (by kernel_rfl) (by kernel_rfl) (fun _ _ _ h => h) (Or.inr ⟨by rfl, rfl⟩) (by assumption) ?_
    (try simp only [Act.put, List.setIfInBounds_toArray, List.set_cons_zero, List.set_cons_succ])
    refine wpAnyH_take (i := 8) (oi := _) (v := undef) op_at8 (by kernel_rfl) (by kernel_rfl) (by kernel_rfl) (fun _ _ _ h => h) (Or.inr ⟨by rfl, rfl⟩) (by assumption) ?_
    (try simp only [Act.put, List.setIfInBounds_toArray, List.set_cons_zero, List.set_cons_succ])
    refine wpAnyH_take (i := 9) (oi := _) (v := ?_) op_at9 (by kernel_rfl) (by kernel_rfl) (by kernel_rfl) (fun _ _ _ h => h) (Or.inl ⟨by rfl, ?_⟩) (by assumption) ?_
    rotate_left
    · intro w hSw
      (try dsimp only at hSw)
      go_simp
      (try with_reducible rfl)
    (try simp only [Act.put, List.setIfInBounds_toArray, List.set_cons_zero, List.set_cons_succ])
    refine wpAnyH_done (by kernel_rfl) ?_ _
    have Hb1 := Lib.hid (below_nx Hb0.out.drew hbR)
    have hs1 := Hb1.out.size
    clear hbR
    go_wp2_with fail
    go_returns
    exact ⟨⟨_, rfl, DSl.nil⟩, by have := Hb1.out; go_grown⟩
  · exact AllReadyH.nil
end Go.Proofs.YtlmiebeffdcfhaaGreat
namespace Go.Proofs.YtlmiebeffdcfhaaGreat
open Go.RowKit
theorem sgoesG (g : Gt) (i : Nat) (w : World) (hk : 1 ≤ g.k ∧ g.k ≤ 12) (ha : 0 ≤ g.a ∧ g.a < 4) (hb : 0 ≤ g.b ∧ g.b < 4) (hc : 0 ≤ g.c ∧ g.c < 4) (hi : i < 16) :
    Calls Tryz.prog 72 #[(.agg #[.int .i64 g.k, .int .i64 g.a, .int .i64 g.b, .int .i64 g.c]), .int .i64 i] w fun e w' => ∃ v, e = .returned v ∧ sentE.Sl w' w.heap.size v (goesG g i) ∧ Below w.heap.size w w' := by
  obtain ⟨k, a, b, c⟩ := g
  obtain ⟨A, rfl⟩ := Int.eq_ofNat_of_zero_le ha.1
  obtain ⟨B, rfl⟩ := Int.eq_ofNat_of_zero_le hb.1
  obtain ⟨C, rfl⟩ := Int.eq_ofNat_of_zero_le hc.1
  exact sgoes k A B C i w hk.1 hk.2 (by have := ha.2; simp at this; omega) (by have := hb.2; simp at this; omega) (by have := hc.2; simp at this; omega) hi
theorem flip_in1 : ∀ i : Fin 2, ∀ q : Fin 1, flipN i.val q.val < 2 := by decide +kernel
theorem flip_in2 : ∀ i : Fin 4, ∀ q : Fin 2, flipN i.val q.val < 4 := by decide +kernel
theorem flip_in3 : ∀ i : Fin 8, ∀ q : Fin 3, flipN i.val q.val < 8 := by decide +kernel
theorem flip_in {n N i q : Nat} (hN : (n = 1 ∧ N = 2) ∨ (n = 2 ∧ N = 4) ∨ (n = 3 ∧ N = 8) ∨ (n = 4 ∧ N = 16)) (hi : i < N) (hq : q < n) : flipN i q < N := by
  rcases hN with ⟨rfl, rfl⟩ | ⟨rfl, rfl⟩ | ⟨rfl, rfl⟩ | ⟨rfl, rfl⟩
  · exact flip_in1 ⟨i, hi⟩ ⟨q, hq⟩
  · exact flip_in2 ⟨i, hi⟩ ⟨q, hq⟩
  · exact flip_in3 ⟨i, hi⟩ ⟨q, hq⟩
  · exact flip_lt ⟨i, hi⟩ ⟨q, hq⟩
theorem goes_in {n N : Nat} (hN : (n = 1 ∧ N = 2) ∨ (n = 2 ∧ N = 4) ∨ (n = 3 ∧ N = 8) ∨ (n = 4 ∧ N = 16)) {k : Int} {A B C i : Nat} (hA : A < n) (hB : B < n) (hC : C < n) (hi : i < N) : ∀ p ∈ goesL k A B C i, p.1 < N := by
  have fA := flip_in hN hi hA
  have fB := flip_in hN hi hB
  have fC := flip_in hN hi hC
  have fAB := flip_in hN fA hB
  have hl : lowN i A < N := by unfold lowN; split; exact fA; exact hi
  have fl' := flip_in hN hl hA
  have one : ∀ {a : Nat} {d : Dw} {p : Nat × Dw}, a < N → p ∈ [(a, d)] → p.1 < N := fun h hp => by rw [List.mem_singleton.1 hp]; exact h
  have ite : ∀ {a b : Nat} {t : Prop} [Decidable t], a < N → b < N → (if t then a else b) < N := fun ha hb => by split <;> assumption
  intro p hp
  unfold goesL at hp
  by_cases h1 : k = 1
  · rw [if_pos h1] at hp
    exact one (ite fA hi) hp
  rw [if_neg h1] at hp
  by_cases h2 : k = 2
  · rw [if_pos h2] at hp
    exact one (fA) hp
  rw [if_neg h2] at hp
  by_cases h3 : k = 3
  · rw [if_pos h3] at hp
    exact one (hi) hp
  rw [if_neg h3] at hp
  by_cases h5 : k = 5
  · rw [if_pos h5] at hp
    exact one (hi) hp
  rw [if_neg h5] at hp
  by_cases h6 : k = 6
  · rw [if_pos h6] at hp
    exact one (hi) hp
  rw [if_neg h6] at hp
  by_cases h7 : k = 7
  · rw [if_pos h7] at hp
    exact one (hi) hp
  rw [if_neg h7] at hp
  by_cases h8 : k = 8
  · rw [if_pos h8] at hp
    exact one (hi) hp
  rw [if_neg h8] at hp
  by_cases h9 : k = 9
  · rw [if_pos h9] at hp
    exact one (ite fB hi) hp
  rw [if_neg h9] at hp
  by_cases h10 : k = 10
  · rw [if_pos h10] at hp
    exact one (hi) hp
  rw [if_neg h10] at hp
  by_cases h12 : k = 12
  · rw [if_pos h12] at hp
    exact one (ite fC hi) hp
  rw [if_neg h12] at hp
  by_cases h11 : k = 11
  · rw [if_pos h11] at hp
    exact one (ite fAB hi) hp
  rw [if_neg h11] at hp
  rcases List.mem_cons.1 hp with rfl | hp
  · exact hl
  · exact one fl' hp
theorem goes_len {g : Gt} {i : Nat} : (goesG g i).length ≤ 2 := by
  unfold goesG goesL
  by_cases h1 : g.k = 1
  · rw [if_pos h1]; exact Nat.le_succ 1
  rw [if_neg h1]
  by_cases h2 : g.k = 2
  · rw [if_pos h2]; exact Nat.le_succ 1
  rw [if_neg h2]
  by_cases h3 : g.k = 3
  · rw [if_pos h3]; exact Nat.le_succ 1
  rw [if_neg h3]
  by_cases h5 : g.k = 5
  · rw [if_pos h5]; exact Nat.le_succ 1
  rw [if_neg h5]
  by_cases h6 : g.k = 6
  · rw [if_pos h6]; exact Nat.le_succ 1
  rw [if_neg h6]
  by_cases h7 : g.k = 7
  · rw [if_pos h7]; exact Nat.le_succ 1
  rw [if_neg h7]
  by_cases h8 : g.k = 8
  · rw [if_pos h8]; exact Nat.le_succ 1
  rw [if_neg h8]
  by_cases h9 : g.k = 9
  · rw [if_pos h9]; exact Nat.le_succ 1
  rw [if_neg h9]
  by_cases h10 : g.k = 10
  · rw [if_pos h10]; exact Nat.le_succ 1
  rw [if_neg h10]
  by_cases h12 : g.k = 12
  · rw [if_pos h12]; exact Nat.le_succ 1
  rw [if_neg h12]
  by_cases h11 : g.k = 11
  · rw [if_pos h11]; exact Nat.le_succ 1
  rw [if_neg h11]
  exact Nat.le_refl 2
theorem qc_pair {N : Nat} (h : 0 < qc N) : ((qc N).toNat = 1 ∧ N = 2) ∨ ((qc N).toNat = 2 ∧ N = 4) ∨ ((qc N).toNat = 3 ∧ N = 8) ∨ ((qc N).toNat = 4 ∧ N = 16) := by
  rcases qc_len h with rfl | rfl | rfl | rfl
  · exact .inl ⟨rfl, rfl⟩
  · exact .inr (.inl ⟨rfl, rfl⟩)
  · exact .inr (.inr (.inl ⟨rfl, rfl⟩))
  · exact .inr (.inr (.inr ⟨rfl, rfl⟩))
theorem goesG_in {g : Gt} {N i : Nat} (hg : gtB g (qc N) = true) (hi : i < N) : ∀ p ∈ goesG g i, p.1 < N := by
  obtain ⟨hn, _, ha, hb, hc⟩ := gtB_parts hg
  exact goes_in (qc_pair (by omega)) (by omega) (by omega) (by omega) hi
theorem send_step {x : Dw} {L : List (Nat × Dw)} {k : Nat} {p : Nat × Dw} {o : List Dw} (hp : L[k]? = some p) :
    sendO x (L.drop k) o = if dMulB x p.2 && dAddB (o.getD p.1 .zero) (dMulV x p.2) then sendO x (L.drop (k + 1)) (o.set p.1 (dAddV (o.getD p.1 .zero) (dMulV x p.2))) else none := by
  have hk : k < L.length := by
    rcases Nat.lt_or_ge k L.length with h' | h'
    · exact h'
    · rw [List.getElem?_eq_none h'] at hp; cases hp
  rw [List.getElem?_eq_getElem hk] at hp
  injection hp with hp
  rw [← List.getElem_cons_drop hk, hp]
  rfl
theorem ap_step {G : Nat → List (Nat × Dw)} {l o : List Dw} {i : Nat} {x : Dw} (hx : l[i]? = some x) :
    apO G i (l.drop i) o = if x = .zero then apO G (i + 1) (l.drop (i + 1)) o else match sendO x (G i) o with
      | some o' => apO G (i + 1) (l.drop (i + 1)) o'
      | none => none := by
  have hi : i < l.length := by
    rcases Nat.lt_or_ge i l.length with h' | h'
    · exact h'
    · rw [List.getElem?_eq_none h'] at hx; cases hx
  rw [List.getElem?_eq_getElem hi] at hx
  injection hx with hx
  rw [← List.getElem_cons_drop hi, hx]
  rfl
end Go.Proofs.YtlmiebeffdcfhaaGreat
namespace Go.Proofs.YtlmiebeffdcfhaaGreat
open Go.ChangeShapes Go.WideShapes Go.ChangeAt Go.RowKit Go.Lib Go.Joins
end Go.Proofs.YtlmiebeffdcfhaaGreat
namespace Go.Proofs.YtlmiebeffdcfhaaGreat
open Go.RowKit
/-- A contribution, six cells. -/
def contE : Enc (Nat × Dw) := ⟨fun p => .int .i64 (p.1 : Int) :: fl p.2, 6, 149, fun _ => rfl, fun x u h => by
  rw [List.mem_cons] at h
  rcases h with rfl | h
  · rfl
  · simp [fl] at h; rcases h with rfl | rfl | rfl | rfl | rfl <;> rfl⟩
theorem new_cont (w : World) (i : Nat) (x : Dw) : contE.Sl (w.alloc (.cells #[.int .i64 (i : Int), .int .i64 x.n.a, .int .i64 x.n.b, .int .i64 x.n.c, .int .i64 x.n.d, .int .i64 x.e] 149)) w.heap.size (.slice (some ⟨w.heap.size, 0, none⟩) 1 1) [(i, x)] :=
  Enc.Sl.mk rfl (Nat.le_refl _) (Nat.le_refl _) ⟨_, heap_alloc_new w _, rfl⟩
theorem new_cont2 (w : World) (i j : Nat) (x y : Dw) : contE.Sl (w.alloc (.cells #[.int .i64 (i : Int), .int .i64 x.n.a, .int .i64 x.n.b, .int .i64 x.n.c, .int .i64 x.n.d, .int .i64 x.e, .int .i64 (j : Int), .int .i64 y.n.a, .int .i64 y.n.b, .int .i64 y.n.c, .int .i64 y.n.d, .int .i64 y.e] 149)) w.heap.size (.slice (some ⟨w.heap.size, 0, none⟩) 2 2) [(i, x), (j, y)] :=
  Enc.Sl.mk rfl (Nat.le_refl _) (Nat.le_refl _) ⟨_, heap_alloc_new w _, rfl⟩
def bI (b : Bool) : Int := if b then 1 else 0
theorem bI_all : ∀ i : Fin 16, ∀ q : Fin 4, bits .and .i64 (((i.val : Nat) : Int) / 2 ^ q.val) 1 = bI (bitN i.val q.val) := by decide +kernel
theorem ibit {i q : Nat} (hi : i < 16) (hq : q < 4) {b : Bool} (hb : bitN i q = b) (w : World) :
    Calls Tryz.prog 42 #[.int .i64 (i : Int), .int .i64 (q : Int)] w fun e w' => e = .returned (.int .i64 (bI b)) ∧ w = w' := by
  rw [← hb, ← show _ = bI (bitN i q) from bI_all ⟨i, hi⟩ ⟨q, hq⟩]
  exact ibitOf i q w (by omega)
attribute [local irreducible] World.cell?
set_option maxRecDepth 100000 in
set_option maxHeartbeats 1600000 in
theorem imove {x k : Int} {J : Nat} {P : Dw} (hx : x = (J : Int)) (hk : dPh k = P) (w : World) :
    Calls Tryz.prog 156 #[.int .i64 x, .int .i64 k] w fun e w' => ∃ v, e = .returned v ∧ contE.Sl w' w.heap.size v [(J, P)] ∧ Below w.heap.size w w' := by
  subst hx
  have H := Lib.hid (show ∀ W, Calls Tryz.prog 163 #[.int .i64 k] W fun e w' => e = .returned (.agg #[.int .i64 P.n.a, .int .i64 P.n.b, .int .i64 P.n.c, .int .i64 P.n.d, .int .i64 P.e]) ∧ Below W.heap.size W w' from fun W => by
    have h := iphase_at k (k % 8).toNat W (by omega)
    rw [← hk]
    exact h)
  clear hk
  go_enter Tryz.func156, Tryz.ntmps156
  go_wp2_with fail
  refine (H.out _).mono ?_
  rintro e w1 ⟨rfl, hb1⟩
  have Hs := Lib.hid ((new_cont w1 J P).mono hb1.size)
  have Hb1 := Lib.hid hb1
  have hs1 := hb1.size
  clear hb1
  go_wp2_with fail
  go_ret
  exact ⟨_, rfl, Hs.out, by have := Hb1.out; go_grown⟩
set_option maxRecDepth 100000 in
set_option maxHeartbeats 3200000 in
theorem iflip (k : Int) (A B C i : Nat) (w : World) (hA : A < 4) (_ : B < 4) (_ : C < 4) (hi : i < 16) :
    Calls Tryz.prog 143 #[(.agg #[.int .i64 ((Gt.mk k A B C)).k, .int .i64 ((Gt.mk k A B C)).a, .int .i64 ((Gt.mk k A B C)).b, .int .i64 ((Gt.mk k A B C)).c]), .int .i64 i] w fun e w' => ∃ v, e = .returned v ∧ contE.Sl w' w.heap.size v [(flipN i A, dPh 0)] ∧ Below w.heap.size w w' := by
  have HX := Lib.hid (heap_alloc_new w (.cells #[.int .i64 ((Gt.mk k A B C)).k, .int .i64 ((Gt.mk k A B C)).a, .int .i64 ((Gt.mk k A B C)).b, .int .i64 ((Gt.mk k A B C)).c] 25))
  obtain ⟨c0, c1, c2, c3⟩ := blk_cells HX.out
  have hS : G1 w w.heap.size (Gt.mk k A B C) (w.alloc (.cells #[.int .i64 ((Gt.mk k A B C)).k, .int .i64 ((Gt.mk k A B C)).a, .int .i64 ((Gt.mk k A B C)).b, .int .i64 ((Gt.mk k A B C)).c] 25)) := ⟨c0, c1, c2, c3, by simp, by go_grown⟩
  have Hb0 := Lib.hid (show Below w.heap.size w (w.alloc (.cells #[.int .i64 ((Gt.mk k A B C)).k, .int .i64 ((Gt.mk k A B C)).a, .int .i64 ((Gt.mk k A B C)).b, .int .i64 ((Gt.mk k A B C)).c] 25)) by go_grown)
  have H := Lib.hid (fun W => imove (x := bits .xor .i64 (i : Int) (wrap64 (2 ^ A))) (k := 0) (flip_bits hi hA) rfl W)
  generalize flipN i A = j at *
  go_enter Tryz.func143, Tryz.ntmps143
  go_wp2_with fail
  refine (H.out _).mono ?_
  rintro e w1 ⟨v, rfl, hd, hb1⟩
  have Hd := Lib.hid (hd.mono (C := w.heap.size) (by simp))
  have Hb1 := Lib.hid (below_nx Hb0.out hb1)
  clear hd hb1
  go_wp2_with fail
  go_ret
  exact ⟨_, rfl, Hd.out, Hb1.out⟩
theorem flipW : ∀ i : Fin 16, ∀ q : Fin 4, bits .xor .i64 ((i.val : Nat) : Int) (IntKind.i64.wrap (2 ^ q.val)) = ((flipN i.val q.val : Nat) : Int) := by decide +kernel
theorem turnW : ∀ a : Bool, dPh (IntKind.i64.wrap (2 + IntKind.i64.wrap (4 * bI a))) = dPh (if a then 6 else 2) := by decide +kernel
theorem oneW : ∀ i : Fin 16, ∀ q r : Fin 4, bits .xor .i64 ((i.val : Nat) : Int) (IntKind.i64.wrap (bI (bitN i.val q.val) * 2 ^ r.val)) = ((if bitN i.val q.val then flipN i.val r.val else i.val : Nat) : Int) := by decide +kernel
theorem bothW : ∀ a b : Bool, dPh (IntKind.i64.wrap (4 * bits .and .i64 (bI a) (bI b))) = if (a && b) then dPh 4 else dPh 0 := by decide +kernel
theorem ccW : ∀ i : Fin 16, ∀ a b : Bool, ∀ r : Fin 4, bits .xor .i64 ((i.val : Nat) : Int) (IntKind.i64.wrap (bits .and .i64 (bI a) (bI b) * 2 ^ r.val)) = ((if (a && b) then flipN i.val r.val else i.val : Nat) : Int) := by decide +kernel
theorem exW : ∀ i : Fin 16, ∀ a b : Bool, ∀ q r : Fin 4, bits .xor .i64 (bits .xor .i64 ((i.val : Nat) : Int) (IntKind.i64.wrap (bits .xor .i64 (bI a) (bI b) * 2 ^ q.val))) (IntKind.i64.wrap (bits .xor .i64 (bI a) (bI b) * 2 ^ r.val)) = ((if a != b then flipN (flipN i.val q.val) r.val else i.val : Nat) : Int) := by decide +kernel
theorem unitW : ∀ a : Bool, (∀ u ∈ [(4 : Int), 2, 1], dPh (IntKind.i64.wrap (u * bI a)) = if a then dPh u else dPh 0) ∧ dPh (IntKind.i64.wrap (-2 * bI a)) = (if a then dPh 6 else dPh 0) ∧ dPh (IntKind.i64.wrap (-1 * bI a)) = if a then dPh 7 else dPh 0 := by decide +kernel
set_option maxRecDepth 100000 in
set_option maxHeartbeats 3200000 in
theorem iflipT (k : Int) (A B C i : Nat) (w : World) (hA : A < 4) (_ : B < 4) (_ : C < 4) (hi : i < 16) :
    Calls Tryz.prog 144 #[(.agg #[.int .i64 ((Gt.mk k A B C)).k, .int .i64 ((Gt.mk k A B C)).a, .int .i64 ((Gt.mk k A B C)).b, .int .i64 ((Gt.mk k A B C)).c]), .int .i64 i] w fun e w' => ∃ v, e = .returned v ∧ contE.Sl w' w.heap.size v [(flipN i A, dPh (if bitN i A then 6 else 2))] ∧ Below w.heap.size w w' := by
  have HX := Lib.hid (heap_alloc_new w (.cells #[.int .i64 ((Gt.mk k A B C)).k, .int .i64 ((Gt.mk k A B C)).a, .int .i64 ((Gt.mk k A B C)).b, .int .i64 ((Gt.mk k A B C)).c] 25))
  obtain ⟨c0, c1, c2, c3⟩ := blk_cells HX.out
  have hS : G1 w w.heap.size (Gt.mk k A B C) (w.alloc (.cells #[.int .i64 ((Gt.mk k A B C)).k, .int .i64 ((Gt.mk k A B C)).a, .int .i64 ((Gt.mk k A B C)).b, .int .i64 ((Gt.mk k A B C)).c] 25)) := ⟨c0, c1, c2, c3, by simp, by go_grown⟩
  have Hb0 := Lib.hid (show Below w.heap.size w (w.alloc (.cells #[.int .i64 ((Gt.mk k A B C)).k, .int .i64 ((Gt.mk k A B C)).a, .int .i64 ((Gt.mk k A B C)).b, .int .i64 ((Gt.mk k A B C)).c] 25)) by go_grown)
  have Hba := Lib.hid (fun W => ibit (i := i) (q := A) hi hA rfl W)
  have hx := flipW ⟨i, hi⟩ ⟨A, hA⟩
  have hk := turnW (bitN i A)
  generalize flipN i A = j at *
  generalize dPh (if bitN i A = true then 6 else 2) = P at *
  generalize bI (bitN i A) = ba at *
  go_enter Tryz.func144, Tryz.ntmps144
  go_upto_region 1 with fail
  go_region_held3 (fun w' => w'.cell? ⟨w.heap.size, 0, none⟩ = some (.int .i64 k) ∧ w'.cell? ⟨w.heap.size, 1, none⟩ = some (.int .i64 (A : Int)) ∧ w'.cell? ⟨w.heap.size, 2, none⟩ = some (.int .i64 (B : Int)) ∧ w'.cell? ⟨w.heap.size, 3, none⟩ = some (.int .i64 (C : Int)) ∧ w.heap.size < w'.heap.size ∧ Below w.heap.size w w') (first | (show G1 w w.heap.size (Gt.mk k A B C) _; (with_reducible exact hS.drew)) | (show G1 w w.heap.size (Gt.mk k A B C) _; (with_reducible refine G1.below ?_ hbR); first | assumption | exact ⟨by assumption, by assumption, by assumption, by assumption, by assumption, by assumption⟩))
    (first | (go_at_call 42; refine (Hba.out _).mono ?_; rintro e wR ⟨rfl, rfl⟩) | (go_at_call 156; refine (imove (J := j) (P := P) (by first | assumption | rfl) (by first | assumption | rfl) _).mono ?_; rintro e wQ ⟨v, rfl, hd, hbM⟩; have HD := Lib.hid hd; have hbR := hbM))
  all_goals
    have Hd := Lib.hid (HD.out.mono (C := w.heap.size) (by simp))
    have Hb1 := Lib.hid (below_nx Hb0.out.drew hbM)
  all_goals go_wp2_with fail
  all_goals go_ret
  all_goals exact ⟨_, rfl, Hd.out, Hb1.out⟩
set_option maxRecDepth 100000 in
set_option maxHeartbeats 3200000 in
theorem iflipO (k : Int) (A B C i : Nat) (w : World) (hA : A < 4) (hB : B < 4) (_ : C < 4) (hi : i < 16) :
    Calls Tryz.prog 147 #[(.agg #[.int .i64 ((Gt.mk k A B C)).k, .int .i64 ((Gt.mk k A B C)).a, .int .i64 ((Gt.mk k A B C)).b, .int .i64 ((Gt.mk k A B C)).c]), .int .i64 i] w fun e w' => ∃ v, e = .returned v ∧ contE.Sl w' w.heap.size v [(if bitN i A then flipN i B else i, dPh 0)] ∧ Below w.heap.size w w' := by
  have HX := Lib.hid (heap_alloc_new w (.cells #[.int .i64 ((Gt.mk k A B C)).k, .int .i64 ((Gt.mk k A B C)).a, .int .i64 ((Gt.mk k A B C)).b, .int .i64 ((Gt.mk k A B C)).c] 25))
  obtain ⟨c0, c1, c2, c3⟩ := blk_cells HX.out
  have hS : G1 w w.heap.size (Gt.mk k A B C) (w.alloc (.cells #[.int .i64 ((Gt.mk k A B C)).k, .int .i64 ((Gt.mk k A B C)).a, .int .i64 ((Gt.mk k A B C)).b, .int .i64 ((Gt.mk k A B C)).c] 25)) := ⟨c0, c1, c2, c3, by simp, by go_grown⟩
  have Hb0 := Lib.hid (show Below w.heap.size w (w.alloc (.cells #[.int .i64 ((Gt.mk k A B C)).k, .int .i64 ((Gt.mk k A B C)).a, .int .i64 ((Gt.mk k A B C)).b, .int .i64 ((Gt.mk k A B C)).c] 25)) by go_grown)
  have Hba := Lib.hid (fun W => ibit (i := i) (q := A) hi hA rfl W)
  have hx := oneW ⟨i, hi⟩ ⟨A, hA⟩ ⟨B, hB⟩
  generalize (if bitN i A = true then flipN i B else i) = j at *
  obtain ⟨P, hP⟩ : ∃ P, dPh 0 = P := ⟨_, rfl⟩
  rw [hP]
  generalize bI (bitN i A) = ba at *
  go_enter Tryz.func147, Tryz.ntmps147
  go_upto_region 1 with fail
  go_region_held3 (fun w' => w'.cell? ⟨w.heap.size, 0, none⟩ = some (.int .i64 k) ∧ w'.cell? ⟨w.heap.size, 1, none⟩ = some (.int .i64 (A : Int)) ∧ w'.cell? ⟨w.heap.size, 2, none⟩ = some (.int .i64 (B : Int)) ∧ w'.cell? ⟨w.heap.size, 3, none⟩ = some (.int .i64 (C : Int)) ∧ w.heap.size < w'.heap.size ∧ Below w.heap.size w w') (first | (show G1 w w.heap.size (Gt.mk k A B C) _; (with_reducible exact hS.drew)) | (show G1 w w.heap.size (Gt.mk k A B C) _; (with_reducible refine G1.below ?_ hbR); first | assumption | exact ⟨by assumption, by assumption, by assumption, by assumption, by assumption, by assumption⟩))
    (first | (go_at_call 42; refine (Hba.out _).mono ?_; rintro e wR ⟨rfl, rfl⟩) | (go_at_call 156; refine (imove (J := j) (P := P) (by first | assumption | rfl) (by first | assumption | rfl) _).mono ?_; rintro e wQ ⟨v, rfl, hd, hbM⟩; have HD := Lib.hid hd; have hbR := hbM))
  all_goals
    have Hd := Lib.hid (HD.out.mono (C := w.heap.size) (by simp))
    have Hb1 := Lib.hid (below_nx Hb0.out.drew hbM)
  all_goals go_wp2_with fail
  all_goals go_ret
  all_goals exact ⟨_, rfl, Hd.out, Hb1.out⟩
set_option maxRecDepth 100000 in
set_option maxHeartbeats 3200000 in
theorem iturnB (k : Int) (A B C i : Nat) (w : World) (hA : A < 4) (hB : B < 4) (_ : C < 4) (hi : i < 16) :
    Calls Tryz.prog 148 #[(.agg #[.int .i64 ((Gt.mk k A B C)).k, .int .i64 ((Gt.mk k A B C)).a, .int .i64 ((Gt.mk k A B C)).b, .int .i64 ((Gt.mk k A B C)).c]), .int .i64 i] w fun e w' => ∃ v, e = .returned v ∧ contE.Sl w' w.heap.size v [(i, if (bitN i A && bitN i B) then dPh 4 else dPh 0)] ∧ Below w.heap.size w w' := by
  have HX := Lib.hid (heap_alloc_new w (.cells #[.int .i64 ((Gt.mk k A B C)).k, .int .i64 ((Gt.mk k A B C)).a, .int .i64 ((Gt.mk k A B C)).b, .int .i64 ((Gt.mk k A B C)).c] 25))
  obtain ⟨c0, c1, c2, c3⟩ := blk_cells HX.out
  have hS : G1 w w.heap.size (Gt.mk k A B C) (w.alloc (.cells #[.int .i64 ((Gt.mk k A B C)).k, .int .i64 ((Gt.mk k A B C)).a, .int .i64 ((Gt.mk k A B C)).b, .int .i64 ((Gt.mk k A B C)).c] 25)) := ⟨c0, c1, c2, c3, by simp, by go_grown⟩
  have Hb0 := Lib.hid (show Below w.heap.size w (w.alloc (.cells #[.int .i64 ((Gt.mk k A B C)).k, .int .i64 ((Gt.mk k A B C)).a, .int .i64 ((Gt.mk k A B C)).b, .int .i64 ((Gt.mk k A B C)).c] 25)) by go_grown)
  have Hba := Lib.hid (fun W => ibit (i := i) (q := A) hi hA rfl W)
  have Hbb := Lib.hid (fun W => ibit (i := i) (q := B) hi hB rfl W)
  have hk := bothW (bitN i A) (bitN i B)
  generalize (if (bitN i A && bitN i B) = true then dPh 4 else dPh 0) = P at *
  generalize bI (bitN i A) = ba at *
  generalize bI (bitN i B) = bb at *
  go_enter Tryz.func148, Tryz.ntmps148
  go_upto_region 1 with fail
  go_region_held3 (fun w' => w'.cell? ⟨w.heap.size, 0, none⟩ = some (.int .i64 k) ∧ w'.cell? ⟨w.heap.size, 1, none⟩ = some (.int .i64 (A : Int)) ∧ w'.cell? ⟨w.heap.size, 2, none⟩ = some (.int .i64 (B : Int)) ∧ w'.cell? ⟨w.heap.size, 3, none⟩ = some (.int .i64 (C : Int)) ∧ w.heap.size < w'.heap.size ∧ Below w.heap.size w w') (first | (show G1 w w.heap.size (Gt.mk k A B C) _; (with_reducible exact hS.drew)) | (show G1 w w.heap.size (Gt.mk k A B C) _; (with_reducible refine G1.below ?_ hbR); first | assumption | exact ⟨by assumption, by assumption, by assumption, by assumption, by assumption, by assumption⟩))
    (first | (go_at_call 42; refine (Hba.out _).mono ?_; rintro e wR ⟨rfl, rfl⟩) | (go_at_call 42; refine (Hbb.out _).mono ?_; rintro e wR ⟨rfl, rfl⟩) | (go_at_call 156; refine (imove (J := i) (P := P) (by first | assumption | rfl) (by first | assumption | rfl) _).mono ?_; rintro e wQ ⟨v, rfl, hd, hbM⟩; have HD := Lib.hid hd; have hbR := hbM))
  all_goals
    have Hd := Lib.hid (HD.out.mono (C := w.heap.size) (by simp))
    have Hb1 := Lib.hid (below_nx Hb0.out.drew hbM)
  all_goals go_wp2_with fail
  all_goals go_ret
  all_goals exact ⟨_, rfl, Hd.out, Hb1.out⟩
set_option maxRecDepth 100000 in
set_option maxHeartbeats 3200000 in
theorem iflipB (k : Int) (A B C i : Nat) (w : World) (hA : A < 4) (hB : B < 4) (hC : C < 4) (hi : i < 16) :
    Calls Tryz.prog 150 #[(.agg #[.int .i64 ((Gt.mk k A B C)).k, .int .i64 ((Gt.mk k A B C)).a, .int .i64 ((Gt.mk k A B C)).b, .int .i64 ((Gt.mk k A B C)).c]), .int .i64 i] w fun e w' => ∃ v, e = .returned v ∧ contE.Sl w' w.heap.size v [(if (bitN i A && bitN i B) then flipN i C else i, dPh 0)] ∧ Below w.heap.size w w' := by
  have HX := Lib.hid (heap_alloc_new w (.cells #[.int .i64 ((Gt.mk k A B C)).k, .int .i64 ((Gt.mk k A B C)).a, .int .i64 ((Gt.mk k A B C)).b, .int .i64 ((Gt.mk k A B C)).c] 25))
  obtain ⟨c0, c1, c2, c3⟩ := blk_cells HX.out
  have hS : G1 w w.heap.size (Gt.mk k A B C) (w.alloc (.cells #[.int .i64 ((Gt.mk k A B C)).k, .int .i64 ((Gt.mk k A B C)).a, .int .i64 ((Gt.mk k A B C)).b, .int .i64 ((Gt.mk k A B C)).c] 25)) := ⟨c0, c1, c2, c3, by simp, by go_grown⟩
  have Hb0 := Lib.hid (show Below w.heap.size w (w.alloc (.cells #[.int .i64 ((Gt.mk k A B C)).k, .int .i64 ((Gt.mk k A B C)).a, .int .i64 ((Gt.mk k A B C)).b, .int .i64 ((Gt.mk k A B C)).c] 25)) by go_grown)
  have Hba := Lib.hid (fun W => ibit (i := i) (q := A) hi hA rfl W)
  have Hbb := Lib.hid (fun W => ibit (i := i) (q := B) hi hB rfl W)
  have hx := ccW ⟨i, hi⟩ (bitN i A) (bitN i B) ⟨C, hC⟩
  generalize (if (bitN i A && bitN i B) = true then flipN i C else i) = j at *
  obtain ⟨P, hP⟩ : ∃ P, dPh 0 = P := ⟨_, rfl⟩
  rw [hP]
  generalize bI (bitN i A) = ba at *
  generalize bI (bitN i B) = bb at *
  go_enter Tryz.func150, Tryz.ntmps150
  go_upto_region 1 with fail
  go_region_held3 (fun w' => w'.cell? ⟨w.heap.size, 0, none⟩ = some (.int .i64 k) ∧ w'.cell? ⟨w.heap.size, 1, none⟩ = some (.int .i64 (A : Int)) ∧ w'.cell? ⟨w.heap.size, 2, none⟩ = some (.int .i64 (B : Int)) ∧ w'.cell? ⟨w.heap.size, 3, none⟩ = some (.int .i64 (C : Int)) ∧ w.heap.size < w'.heap.size ∧ Below w.heap.size w w') (first | (show G1 w w.heap.size (Gt.mk k A B C) _; (with_reducible exact hS.drew)) | (show G1 w w.heap.size (Gt.mk k A B C) _; (with_reducible refine G1.below ?_ hbR); first | assumption | exact ⟨by assumption, by assumption, by assumption, by assumption, by assumption, by assumption⟩))
    (first | (go_at_call 42; refine (Hba.out _).mono ?_; rintro e wR ⟨rfl, rfl⟩) | (go_at_call 42; refine (Hbb.out _).mono ?_; rintro e wR ⟨rfl, rfl⟩) | (go_at_call 156; refine (imove (J := j) (P := P) (by first | assumption | rfl) (by first | assumption | rfl) _).mono ?_; rintro e wQ ⟨v, rfl, hd, hbM⟩; have HD := Lib.hid hd; have hbR := hbM))
  all_goals
    have Hd := Lib.hid (HD.out.mono (C := w.heap.size) (by simp))
    have Hb1 := Lib.hid (below_nx Hb0.out.drew hbM)
  all_goals go_wp2_with fail
  all_goals go_ret
  all_goals exact ⟨_, rfl, Hd.out, Hb1.out⟩
end Go.Proofs.YtlmiebeffdcfhaaGreat
namespace Go.Proofs.YtlmiebeffdcfhaaGreat
open Go.RowKit
attribute [local irreducible] World.cell?
end Go.Proofs.YtlmiebeffdcfhaaGreat
namespace Go.Proofs.YtlmiebeffdcfhaaGreat
theorem root_zero : Zw.zero.root = Zw.zero := by decide
theorem rootN_zero : ∀ k : Nat, rootN k Zw.zero = Zw.zero
  | 0 => rfl
  | k + 1 => by rw [rootN, root_zero]; exact rootN_zero k
theorem upB_zero : ∀ k : Nat, upB k Zw.zero = true
  | 0 => rfl
  | k + 1 => by rw [upB, root_zero, upB_zero k]; decide
theorem red_zero : ∀ k : Nat, red k Zw.zero = (Zw.zero, 0)
  | 0 => rfl
  | k + 1 => by rw [red, if_pos (by decide), show divV Zw.zero = Zw.zero by decide]; exact red_zero k
theorem mul_zeroZ (x : Zw) : x.mul .zero = .zero := by simp [Zw.mul, Zw.zero]
theorem add_zeroZ (x : Zw) : x.add .zero = x := by simp [Zw.add, Zw.zero]
theorem new_zero {k : Int} (h0 : 0 ≤ k) (h1 : k ≤ 120) : newB .zero k = true ∧ newV .zero k = .zero := by
  have hb : newB .zero k = true := newB_iff.2 ⟨by decide, h0, h1, by rw [red_zero]; exact Nat.zero_le _⟩
  exact ⟨hb, by rw [newV_of hb, red_zero]; rfl⟩
theorem dmul_zero {x : Dw} (h : x.ok) : dMulB x .zero = true ∧ dMulV x .zero = .zero := by
  have hn := new_zero (k := x.e + Dw.zero.e) (by show 0 ≤ x.e + 0; have := h.2; omega) (by show x.e + 0 ≤ 120; have := h.2; omega)
  have hm : x.n.mul Dw.zero.n = .zero := mul_zeroZ x.n
  have hb : dMulB x .zero = true := dMulB_iff.2 ⟨h, zero_ok, mulB_iff.2 ⟨h.1, by decide, by rw [hm]; decide⟩, by rw [hm]; exact hn.1⟩
  exact ⟨hb, by rw [dMulV_of hb, hm]; exact hn.2⟩
theorem dzero_mul {x : Dw} (h : x.ok) : dMulB .zero x = true ∧ dMulV .zero x = .zero := by
  rw [dMulB_comm x .zero, dMulV_comm x .zero]
  exact dmul_zero h
theorem dadd_zeroK {s : Dw} (h : s.ok) : dAddB s .zero = true ∧ dAddV s .zero = s := by
  have ht : topE s .zero = s.e := by
    have := h.2
    unfold topE
    show (if (0 : Int) < s.e then s.e else 0) = s.e
    split <;> omega
  have ha : numA s .zero = s.n := by unfold numA; rw [ht, Int.sub_self]; rfl
  have hb : numB s .zero = .zero := by unfold numB; exact rootN_zero _
  have hs := newV_self h
  have e : dAddB s .zero = true := dAddB_iff.2 ⟨h, zero_ok, by rw [ht, Int.sub_self]; rfl, upB_zero _, by rw [ha, hb]; exact addB_iff.2 ⟨h.1, by decide, by rw [add_zeroZ]; exact h.1⟩, by rw [ha, hb, add_zeroZ, ht]; exact hs.1⟩
  exact ⟨e, by rw [dAddV_of e, ha, hb, add_zeroZ, ht]; exact hs.2⟩
end Go.Proofs.YtlmiebeffdcfhaaGreat
namespace Go.Proofs.YtlmiebeffdcfhaaGreat
open Go.RowKit
theorem flat_take : ∀ (l : List Dw) (k : Nat), flat (l.take k) = (flat l).take (k * 5)
  | l, 0 => by simp [flat]
  | [], k + 1 => by simp [flat]
  | x :: l, k + 1 => by
    rw [List.take_succ_cons, flat, flat, flat_take l k, show (k + 1) * 5 = (fl x).length + k * 5 by simp [fl]; omega, List.take_length_add_append]
theorem DRow.take {w : World} {g : Nat} {l : List Dw} (h : DRow w g l) (k : Nat) : DRow w g (l.take k) := by
  obtain ⟨cs, h1, h2⟩ := h
  refine ⟨cs, h1, ?_⟩
  rw [flat_take, ← h2, List.take_take, List.length_take]
  congr 1
  omega
attribute [local irreducible] World.cell?
end Go.Proofs.YtlmiebeffdcfhaaGreat
namespace Go.Proofs.YtlmiebeffdcfhaaGreat
open Go.RowKit
theorem DSM.own {w w' : World} {B C D : Nat} {v : Value} {M : List (List Dw)} (h : DSM w D C v M) (ho : Own B w w') (hB : B < D) : DSM w' D C v M :=
  h.block fun k hk _ hl => ho.block k hl (by intro e; injection e with e; omega)
end Go.Proofs.YtlmiebeffdcfhaaGreat
