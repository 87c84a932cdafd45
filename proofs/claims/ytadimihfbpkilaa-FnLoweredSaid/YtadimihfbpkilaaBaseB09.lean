/- BaseB09: several of our texts in one: DcP GtP LyP. -/
import Derived.Test.YtadimihfbpkilaaBaseB08
namespace Go.Proofs.Ytadimihfbpkilaa
/-- DecomposeGate; DecomposeGates. -/
def dcG (g : Gt) : List Gt :=
  if g.k = 10 then [⟨4, g.b, 0, 0⟩, ⟨9, g.a, g.b, 0⟩, ⟨4, g.b, 0, 0⟩]
  else if g.k = 11 then [⟨9, g.a, g.b, 0⟩, ⟨9, g.b, g.a, 0⟩, ⟨9, g.a, g.b, 0⟩]
  else if g.k = 12 then [⟨4, g.c, 0, 0⟩, ⟨9, g.b, g.c, 0⟩, ⟨8, g.c, 0, 0⟩, ⟨9, g.a, g.c, 0⟩, ⟨7, g.c, 0, 0⟩, ⟨9, g.b, g.c, 0⟩, ⟨8, g.c, 0, 0⟩, ⟨9, g.a, g.c, 0⟩, ⟨7, g.b, 0, 0⟩, ⟨7, g.c, 0, 0⟩, ⟨4, g.c, 0, 0⟩, ⟨9, g.a, g.b, 0⟩, ⟨7, g.a, 0, 0⟩, ⟨8, g.b, 0, 0⟩, ⟨9, g.a, g.b, 0⟩]
  else [g]
def dcL (L : List Gt) : List Gt := L.flatMap dcG
theorem dcG_at {k a b c : Int} : (k = 10 → dcG ⟨k, a, b, c⟩ = [⟨4, b, 0, 0⟩, ⟨9, a, b, 0⟩, ⟨4, b, 0, 0⟩]) ∧ (k = 11 → dcG ⟨k, a, b, c⟩ = [⟨9, a, b, 0⟩, ⟨9, b, a, 0⟩, ⟨9, a, b, 0⟩]) ∧
    (k = 12 → dcG ⟨k, a, b, c⟩ = [⟨4, c, 0, 0⟩, ⟨9, b, c, 0⟩, ⟨8, c, 0, 0⟩, ⟨9, a, c, 0⟩, ⟨7, c, 0, 0⟩, ⟨9, b, c, 0⟩, ⟨8, c, 0, 0⟩, ⟨9, a, c, 0⟩] ++ [⟨7, b, 0, 0⟩, ⟨7, c, 0, 0⟩, ⟨4, c, 0, 0⟩, ⟨9, a, b, 0⟩, ⟨7, a, 0, 0⟩, ⟨8, b, 0, 0⟩, ⟨9, a, b, 0⟩]) ∧
    (k ≠ 10 → k ≠ 11 → k ≠ 12 → dcG ⟨k, a, b, c⟩ = [⟨k, a, b, c⟩]) :=
  ⟨fun h => by subst h; rfl, fun h => by subst h; rfl, fun h => by subst h; rfl, fun h1 h2 h3 => by unfold dcG; rw [if_neg (by simpa using h1), if_neg (by simpa using h2), if_neg (by simpa using h3)]⟩
theorem dcG_len (g : Gt) : 1 ≤ (dcG g).length ∧ (dcG g).length ≤ 15 := by
  unfold dcG
  repeat' split
  all_goals (simp)
theorem dcL_len : ∀ L : List Gt, (dcL L).length ≤ 15 * L.length
  | [] => Nat.le_refl _
  | g :: L => by
    have h1 := dcL_len L
    have h2 := (dcG_len g).2
    rw [show dcL (g :: L) = dcG g ++ dcL L from rfl, List.length_append, List.length_cons]
    omega
theorem dcL_step {L : List Gt} {j : Nat} {x : Gt} (hx : L[j]? = some x) : dcL (L.take (j + 1)) = dcL (L.take j) ++ dcG x := by
  unfold dcL
  rw [List.take_add_one, hx, List.flatMap_append]
  simp
theorem dcL_take (L : List Gt) (j : Nat) : (dcL (L.take j)).length ≤ 15 * j := by
  have h1 := dcL_len (L.take j)
  rw [List.length_take] at h1
  omega
/-- IsBasicGate. -/
def bsG (g : Gt) : Bool := decide (ar g.k = 1) || decide (g.k = 9)
end Go.Proofs.Ytadimihfbpkilaa
namespace Go.Proofs.Ytadimihfbpkilaa
open Go.RowKit
/-- areDistinctQubits. -/
def dqOk (l : List Int) (n : Int) (j : Nat) : Bool := decide (0 ≤ l.getD j 0 ∧ l.getD j 0 < n) && !decide (l.getD j 0 ∈ l.take j)
def dq (l : List Int) (n : Int) : Bool := (List.range l.length).all (dqOk l n)
theorem wrapN {n : Int} (h : 1 ≤ n ∧ n ≤ 4) : IntKind.i64.wrap (n - 1) = n - 1 := by
  rcases (show n = 1 ∨ n = 2 ∨ n = 3 ∨ n = 4 by omega) with rfl | rfl | rfl | rfl <;> decide +kernel
theorem range3 : List.range 3 = [0, 1, 2] := by decide
theorem range2 : List.range 2 = [0, 1] := by decide
theorem range1 : List.range 1 = [0] := by decide
theorem upTo (x n : Int) : decide (0 ≤ x ∧ x ≤ n - 1) = decide (0 ≤ x ∧ x < n) := decide_eq_decide.2 (by omega)
theorem gtB_no {g : Gt} {n : Int} (h : ¬ (1 ≤ n ∧ n ≤ 4)) : gtB g n = false := by unfold gtB; rw [decide_eq_false h]; simp
theorem gtB_zero {g : Gt} {n : Int} (h : ar g.k = 0) : gtB g n = false := by unfold gtB; rw [h]; simp
theorem gtB_1 {k a b c n : Int} (h : ar k = 1) (hn : 1 ≤ n ∧ n ≤ 4) : gtB ⟨k, a, b, c⟩ n = (decide (b = 0) && decide (c = 0) && dq [a] n) := by
  unfold gtB gtOk dq dqOk gqs
  simp only [h, wrapN hn, range3, List.length_cons, List.length_nil, Nat.zero_add, range1, List.all_cons, List.all_nil, decide_eq_true hn, upTo]
  simp [Bool.and_comm, Bool.and_left_comm]
theorem gtB_2 {k a b c n : Int} (h : ar k = 2) (hn : 1 ≤ n ∧ n ≤ 4) : gtB ⟨k, a, b, c⟩ n = (decide (c = 0) && dq [a, b] n) := by
  unfold gtB gtOk dq dqOk gqs
  simp only [h, wrapN hn, range3, List.length_cons, List.length_nil, Nat.zero_add, Nat.reduceAdd, range2, List.all_cons, List.all_nil, decide_eq_true hn, upTo]
  simp [Bool.and_comm, Bool.and_left_comm]
theorem gtB_3 {k a b c n : Int} (h : ar k = 3) (hn : 1 ≤ n ∧ n ≤ 4) : gtB ⟨k, a, b, c⟩ n = dq [a, b, c] n := by
  unfold gtB gtOk dq dqOk gqs
  simp only [h, wrapN hn, range3, List.length_cons, List.length_nil, Nat.zero_add, Nat.reduceAdd, List.all_cons, List.all_nil, decide_eq_true hn, upTo]
  simp
theorem gtB_parts {g : Gt} {n : Int} (h : gtB g n = true) : (1 ≤ n ∧ n ≤ 4) ∧ (1 ≤ g.k ∧ g.k ≤ 12) ∧ (0 ≤ g.a ∧ g.a < n) ∧ (0 ≤ g.b ∧ g.b < n) ∧ 0 ≤ g.c ∧ g.c < n := by
  unfold gtB at h
  simp only [Bool.and_eq_true, decide_eq_true_eq] at h
  obtain ⟨hall, hpos, hn⟩ := h
  have hw : IntKind.i64.wrap (n - 1) = n - 1 := by rw [IntKind.wrap_i64]; omega
  rw [hw, List.all_eq_true] at hall
  have hk : 1 ≤ g.k ∧ g.k ≤ 12 := by
    unfold ar at hpos
    repeat' split at hpos
    all_goals omega
  have key : ∀ j, j < 3 → 0 ≤ [g.a, g.b, g.c].getD j 0 ∧ [g.a, g.b, g.c].getD j 0 < n := fun j hj => by
    have h := hall j (List.mem_range.2 hj)
    unfold gtOk at h
    split at h
    · have := of_decide_eq_true h; omega
    · rw [Bool.and_eq_true] at h
      have := of_decide_eq_true h.1
      omega
  exact ⟨hn, hk, key 0 (by omega), key 1 (by omega), key 2 (by omega)⟩
end Go.Proofs.Ytadimihfbpkilaa
namespace Go.Proofs.Ytadimihfbpkilaa
/-- Two gates share a qubit. -/
def mtG (g h : Gt) : Bool := (gqs g).any fun q => decide (q ∈ gqs h)
def anyG (L : List Gt) (h : Gt) : Bool := L.any fun g => mtG g h
/-- From n downwards: the first layer behind the last that meets h. -/
def atL (M : List (List Gt)) (h : Gt) : Nat → Nat
  | 0 => 0
  | n + 1 => if anyG (M.getD n []) h then n + 1 else atL M h n
def layAt (M : List (List Gt)) (h : Gt) : Nat := atL M h M.length
def layG (M : List (List Gt)) (h : Gt) : List (List Gt) :=
  if layAt M h = M.length then M ++ [[h]] else M.set (layAt M h) (M.getD (layAt M h) [] ++ [h])
def layL : List (List Gt) → List Gt → List (List Gt)
  | M, [] => M
  | M, g :: L => layL (layG M g) L
theorem mtG_iff {g h : Gt} : mtG g h = true ↔ ∃ q, q ∈ gqs g ∧ q ∈ gqs h := by simp [mtG]
theorem mtG_comm (g h : Gt) : mtG g h = mtG h g := by
  rw [Bool.eq_iff_iff, mtG_iff, mtG_iff]
  exact ⟨fun ⟨q, a, b⟩ => ⟨q, b, a⟩, fun ⟨q, a, b⟩ => ⟨q, b, a⟩⟩
theorem anyG_no {L : List Gt} {h : Gt} (k : anyG L h = false) {g : Gt} (hg : g ∈ L) : mtG g h = false := by
  have := List.any_eq_false.1 k g hg
  simpa using this
theorem atL_le (M : List (List Gt)) (h : Gt) : ∀ n, atL M h n ≤ n
  | 0 => Nat.le_refl 0
  | n + 1 => by
    rw [atL]
    split
    · exact Nat.le_refl _
    · exact Nat.le_succ_of_le (atL_le M h n)
/-- Behind its place a gate meets no layer. -/
theorem atL_clear (M : List (List Gt)) (h : Gt) : ∀ n k, atL M h n ≤ k → k < n → anyG (M.getD k []) h = false
  | 0, k, _, hk => absurd hk (Nat.not_lt_zero _)
  | n + 1, k, h1, hk => by
    rw [atL] at h1
    split at h1
    · omega
    · rename_i hn
      rcases Nat.lt_succ_iff_lt_or_eq.1 hk with h2 | rfl
      · exact atL_clear M h n k h1 h2
      · simpa using hn
theorem layAt_le (M : List (List Gt)) (h : Gt) : layAt M h ≤ M.length := atL_le M h _
theorem layAt_clear {M : List (List Gt)} {h : Gt} {k : Nat} (h1 : layAt M h ≤ k) (hk : k < M.length) : anyG (M.getD k []) h = false := atL_clear M h _ k h1 hk
theorem layG_len (M : List (List Gt)) (h : Gt) : (layG M h).length = max M.length (layAt M h + 1) := by
  have := layAt_le M h
  unfold layG
  split
  · rename_i e
    rw [List.length_append, e]
    simp
  · rw [List.length_set]; omega
/-- Gates that share no qubit exchanged, again and again. -/
inductive Sw : List Gt → List Gt → Prop
  | refl (L : List Gt) : Sw L L
  | swap (A B : List Gt) (g h : Gt) (L : List Gt) : mtG g h = false → Sw (A ++ h :: g :: B) L → Sw (A ++ g :: h :: B) L
theorem Sw.trans {L M N : List Gt} (h : Sw L M) (k : Sw M N) : Sw L N := by
  induction h with
  | refl _ => exact k
  | swap A B g h L hm _ ih => exact .swap A B g h N hm (ih k)
theorem Sw.behind {L M : List Gt} (h : Sw L M) (B : List Gt) : Sw (L ++ B) (M ++ B) := by
  induction h with
  | refl _ => exact .refl _
  | swap A C g h L hm _ ih =>
    have e : A ++ g :: h :: C ++ B = A ++ g :: h :: (C ++ B) := by simp
    rw [e]
    refine .swap A (C ++ B) g h _ hm ?_
    have e2 : A ++ h :: g :: C ++ B = A ++ h :: g :: (C ++ B) := by simp
    rw [← e2]
    exact ih
theorem Sw.move (h : Gt) (B : List Gt) : ∀ (X A : List Gt), (∀ g ∈ X, mtG g h = false) → Sw (A ++ X ++ h :: B) (A ++ h :: (X ++ B))
  | [], A, _ => by simpa using Sw.refl (A ++ h :: B)
  | g :: X, A, hx => by
    have h1 := Sw.move h B X (A ++ [g]) fun x hxx => hx x (List.mem_cons_of_mem _ hxx)
    have e1 : A ++ g :: X ++ h :: B = A ++ [g] ++ X ++ h :: B := by simp
    rw [e1]
    refine h1.trans ?_
    have e2 : A ++ [g] ++ h :: (X ++ B) = A ++ g :: h :: (X ++ B) := by simp
    rw [e2]
    exact .swap A (X ++ B) g h _ (hx g (List.mem_cons_self ..)) (Sw.refl _)
theorem layG_sw (M : List (List Gt)) (h : Gt) : Sw (M.flatten ++ [h]) (layG M h).flatten := by
  unfold layG
  split
  · rw [List.flatten_append]
    exact .refl _
  · rename_i hne
    have hlt : layAt M h < M.length := by have := layAt_le M h; omega
    have hg : M.getD (layAt M h) [] = M[layAt M h] := by rw [List.getD_eq_getElem?_getD, List.getElem?_eq_getElem hlt]; rfl
    have e : M.set (layAt M h) (M.getD (layAt M h) [] ++ [h]) = M.take (layAt M h) ++ (M[layAt M h] ++ [h]) :: M.drop (layAt M h + 1) := by
      rw [hg, List.set_eq_take_append_cons_drop, if_pos hlt]
    have e2 : M.flatten = (M.take (layAt M h)).flatten ++ M[layAt M h] ++ (M.drop (layAt M h + 1)).flatten := by
      have h0 := List.take_append_drop (layAt M h) M
      have h1 := List.getElem_cons_drop hlt
      calc M.flatten = (M.take (layAt M h) ++ M.drop (layAt M h)).flatten := by rw [h0]
        _ = _ := by rw [← h1, List.flatten_append, List.flatten_cons, List.append_assoc]
    rw [e, e2]
    have h1 := Sw.move h [] (M.drop (layAt M h + 1)).flatten ((M.take (layAt M h)).flatten ++ M[layAt M h]) fun g hgm => by
      obtain ⟨l, hl, hgl⟩ := List.mem_flatten.1 hgm
      obtain ⟨k, hk, rfl⟩ := List.mem_iff_getElem.1 hl
      rw [List.length_drop] at hk
      have hc := layAt_clear (M := M) (h := h) (k := layAt M h + 1 + k) (by omega) (by omega)
      rw [List.getD_eq_getElem?_getD, List.getElem?_eq_getElem (by omega)] at hc
      rw [List.getElem_drop] at hgl
      exact anyG_no hc hgl
    simpa using h1
theorem layL_sw : ∀ (L : List Gt) (M : List (List Gt)), Sw (M.flatten ++ L) (layL M L).flatten
  | [], M => by simpa [layL] using Sw.refl M.flatten
  | g :: L, M => by
    rw [layL]
    refine Sw.trans ?_ (layL_sw L (layG M g))
    have := (layG_sw M g).behind L
    simpa using this
/-- No two gates of a layer share a qubit. -/
def lyOk (l : List Gt) : Prop := ∀ k x, l[k]? = some x → anyG (l.take k) x = false
theorem lyOk_snoc {l : List Gt} {h : Gt} (k : lyOk l) (hn : anyG l h = false) : lyOk (l ++ [h]) := by
  intro j x hx
  rcases Nat.lt_trichotomy j l.length with hj | rfl | hj
  · rw [List.getElem?_append_left hj] at hx
    rw [List.take_append_of_le_length (by omega)]
    exact k j x hx
  · rw [List.getElem?_append_right (Nat.le_refl _), Nat.sub_self] at hx
    simp at hx
    subst hx
    rw [List.take_left]
    exact hn
  · rw [List.getElem?_eq_none (by simp; omega)] at hx; cases hx
theorem lyOk_nil : lyOk [] := fun k x hx => by simp at hx
theorem layG_ok {M : List (List Gt)} {h : Gt} (k : ∀ l ∈ M, lyOk l) : ∀ l ∈ layG M h, lyOk l := by
  intro l hl
  unfold layG at hl
  split at hl
  · rcases List.mem_append.1 hl with h1 | h1
    · exact k l h1
    · simp at h1
      subst h1
      exact lyOk_snoc lyOk_nil rfl
  · rename_i hne
    have hlt : layAt M h < M.length := by have := layAt_le M h; omega
    have hg : M.getD (layAt M h) [] = M[layAt M h] := by rw [List.getD_eq_getElem?_getD, List.getElem?_eq_getElem hlt]; rfl
    rcases List.mem_or_eq_of_mem_set hl with h1 | rfl
    · exact k l h1
    · exact lyOk_snoc (by rw [hg]; exact k _ (List.getElem_mem _)) (layAt_clear (Nat.le_refl _) hlt)
theorem layL_ok : ∀ {L : List Gt} {M : List (List Gt)}, (∀ l ∈ M, lyOk l) → ∀ l ∈ layL M L, lyOk l
  | [], _, k => k
  | g :: L, M, k => by rw [layL]; exact layL_ok (layG_ok k)
theorem Sw.perm {L M : List Gt} (h : Sw L M) : L.Perm M := by
  induction h with
  | refl _ => exact .refl _
  | swap A B g h L _ _ ih => exact (List.Perm.append_left A (List.Perm.swap h g B)).trans ih
/-- A gate's place once another has been laid. -/
theorem atL_set {M : List (List Gt)} {g h : Gt} {at' : Nat} : ∀ {n : Nat}, at' < M.length → atL (M.set at' (M.getD at' [] ++ [g])) h n = if mtG g h = true ∧ at' < n then max (atL M h n) (at' + 1) else atL M h n
  | 0, _ => by simp [atL]
  | n + 1, hl => by
    have ih := atL_set (M := M) (g := g) (h := h) (n := n) hl
    have hle := atL_le M h n
    rw [atL, atL]
    by_cases e : at' = n
    · subst e
      have hg : (M.set at' (M.getD at' [] ++ [g])).getD at' [] = M.getD at' [] ++ [g] := by
        rw [List.getD_eq_getElem?_getD, List.getElem?_set_self hl]; rfl
      have ha : anyG (M.getD at' [] ++ [g]) h = (anyG (M.getD at' []) h || mtG g h) := by unfold anyG; rw [List.any_append]; simp
      rw [hg, ha, ih]
      cases h1 : anyG (M.getD at' []) h <;> cases h2 : mtG g h <;> simp <;> omega
    · have hg : (M.set at' (M.getD at' [] ++ [g])).getD n [] = M.getD n [] := by
        rw [List.getD_eq_getElem?_getD, List.getElem?_set_ne e, ← List.getD_eq_getElem?_getD]
      rw [hg, ih]
      by_cases hm : mtG g h = true
      · by_cases hlt : at' < n
        · cases h1 : anyG (M.getD n []) h <;> simp [hm, hlt, Nat.lt_succ_of_lt hlt] <;> omega
        · have h3 : ¬ at' < n + 1 := by omega
          cases h1 : anyG (M.getD n []) h <;> simp [hlt, h3]
      · cases h1 : anyG (M.getD n []) h <;> simp [hm]
theorem atL_snoc {M : List (List Gt)} {g h : Gt} : ∀ {n : Nat}, n ≤ M.length → atL (M ++ [[g]]) h n = atL M h n
  | 0, _ => rfl
  | n + 1, hl => by
    rw [atL, atL, atL_snoc (M := M) (by omega), List.getD_eq_getElem?_getD, List.getElem?_append_left (by omega), ← List.getD_eq_getElem?_getD]
theorem layAt_lay (M : List (List Gt)) (g h : Gt) : layAt (layG M g) h = if mtG g h = true then max (layAt M h) (layAt M g + 1) else layAt M h := by
  have hle := layAt_le M g
  have hlh := layAt_le M h
  by_cases e : layAt M g = M.length
  · have hG : layG M g = M ++ [[g]] := if_pos e
    have ha : layAt (layG M g) h = if anyG ((M ++ [[g]]).getD M.length []) h then M.length + 1 else atL (M ++ [[g]]) h M.length := by
      rw [hG]; unfold layAt; rw [List.length_append]; rfl
    have hg : (M ++ [[g]]).getD M.length [] = [g] := by rw [List.getD_eq_getElem?_getD]; simp
    have hany : anyG [g] h = mtG g h := by simp [anyG]
    rw [ha, hg, hany, atL_snoc (Nat.le_refl _)]
    show (if mtG g h = true then M.length + 1 else layAt M h) = _
    split
    · omega
    · rfl
  · have hlt : layAt M g < M.length := by omega
    have hG : layG M g = M.set (layAt M g) (M.getD (layAt M g) [] ++ [g]) := if_neg e
    rw [hG]
    show atL _ h (M.set _ _).length = _
    rw [List.length_set, atL_set hlt]
    show (if mtG g h = true ∧ layAt M g < M.length then max (layAt M h) (layAt M g + 1) else layAt M h) = _
    by_cases hm : mtG g h = true
    · rw [if_pos ⟨hm, hlt⟩, if_pos hm]
    · rw [if_neg fun h => hm h.1, if_neg hm]
/-- Layers laid upon d layers, against the same layers laid upon none. -/
def Low (d : Nat) (P Q : List (List Gt)) : Prop := (∀ h, layAt P h ≤ layAt Q h ∧ layAt Q h ≤ d + layAt P h) ∧ P.length ≤ Q.length ∧ Q.length ≤ d + P.length ∧ d ≤ Q.length
theorem Low.lay {d : Nat} {P Q : List (List Gt)} (h : Low d P Q) (g : Gt) : Low d (layG P g) (layG Q g) := by
  obtain ⟨h1, h2, h3, h4⟩ := h
  have hg := h1 g
  refine ⟨fun x => ?_, ?_, ?_, ?_⟩
  · have hx := h1 x
    rw [layAt_lay, layAt_lay]
    split
    · omega
    · exact hx
  · rw [layG_len, layG_len]; omega
  · rw [layG_len, layG_len]; omega
  · rw [layG_len]; omega
theorem Low.all {d : Nat} : ∀ (L : List Gt) {P Q : List (List Gt)}, Low d P Q → Low d (layL P L) (layL Q L)
  | [], _, _, h => h
  | g :: L, _, _, h => by rw [layL, layL]; exact Low.all L (h.lay g)
theorem layL_app : ∀ (L K : List Gt) (M : List (List Gt)), layL M (L ++ K) = layL (layL M L) K
  | [], _, _ => rfl
  | g :: L, K, M => by rw [List.cons_append, layL, layL]; exact layL_app L K (layG M g)
/-- The depth of a concatenation. -/
theorem depth_app (A B : List Gt) : (layL [] (A ++ B)).length ≤ (layL [] A).length + (layL [] B).length ∧ (layL [] A).length ≤ (layL [] (A ++ B)).length ∧ (layL [] B).length ≤ (layL [] (A ++ B)).length := by
  have h0 : Low (layL [] A).length [] (layL [] A) := ⟨fun h => ⟨Nat.zero_le _, by show layAt _ h ≤ _ + 0; have := layAt_le (layL [] A) h; omega⟩, Nat.zero_le _, Nat.le_refl _, Nat.le_refl _⟩
  obtain ⟨-, h2, h3, h4⟩ := Low.all B h0
  rw [layL_app]
  exact ⟨h3, h4, h2⟩
theorem layL_len : ∀ (L : List Gt) (M : List (List Gt)), (layL M L).length ≤ M.length + L.length
  | [], M => Nat.le_refl _
  | g :: L, M => by
    rw [layL]
    have h1 := layL_len L (layG M g)
    have h2 := layG_len M g
    have h3 := layAt_le M g
    rw [List.length_cons]
    omega
end Go.Proofs.Ytadimihfbpkilaa
