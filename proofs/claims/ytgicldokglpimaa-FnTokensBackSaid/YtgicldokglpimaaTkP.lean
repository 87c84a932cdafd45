/- Plain: tokens: their texts, the text of a list, what a text is read as; each round trip. -/
import Derived.Test.YtgicldokglpimaaBaseB01
namespace Go.Proofs.Ytgicldokglpimaa
/-- A letter or a digit. -/
def isL (x : UInt8) : Bool := (decide (97 ≤ x.toNat) && decide (x.toNat ≤ 122)) || (decide (48 ≤ x.toNat) && decide (x.toNat ≤ 57))
/-- IsValidWord. -/
def wordB (l : List UInt8) : Bool := l.all isL && decide (1 ≤ l.length ∧ l.length ≤ 8)
structure Tk where
  k : Int
  s : List UInt8
/-- FormatToken. -/
def tkT (t : Tk) : List UInt8 := if t.k = 1 ∧ wordB t.s = true then t.s else if t.s = [] ∧ t.k = 2 then [59] else if t.s = [] ∧ t.k = 3 then [123] else if t.s = [] ∧ t.k = 4 then [125] else []
/-- FormatTokens. -/
def tksL : Bool → List Tk → List UInt8
  | _, [] => []
  | f, t :: r => (if f || decide (t.k = 2) then [] else [32]) ++ (tkT t ++ tksL false r)
/-- A mark's token. -/
def mkT (x : UInt8) : Option Tk := if x = 59 then some ⟨2, []⟩ else if x = 123 then some ⟨3, []⟩ else if x = 125 then some ⟨4, []⟩ else none
theorem drop_le (p : UInt8 → Bool) : ∀ l : List UInt8, (l.dropWhile p).length ≤ l.length
  | [] => Nat.le_refl _
  | x :: r => by
    rw [List.dropWhile_cons]
    split
    · have := drop_le p r; rw [List.length_cons]; omega
    · exact Nat.le_refl _
/-- Tokenize, with what has been read. -/
def tz : List UInt8 → List Tk → Option (List Tk)
  | [], out => some out
  | x :: r, out =>
    if x = 32 ∨ x = 10 then tz r out
    else match mkT x with
      | some t => if out.length = 160 then none else tz r (out ++ [t])
      | none => if isL x = true ∧ wordB (x :: r.takeWhile isL) = true ∧ out.length ≠ 160 then tz (r.dropWhile isL) (out ++ [⟨1, x :: r.takeWhile isL⟩]) else none
termination_by l => l.length
decreasing_by
  · simp
  · simp
  · have := drop_le isL r; simp; omega
theorem tkT_len (t : Tk) : (tkT t).length ≤ 8 := by
  unfold tkT
  split
  · rename_i h
    have h2 := h.2
    unfold wordB at h2
    rw [Bool.and_eq_true, decide_eq_true_eq] at h2
    exact h2.2.2
  · (repeat' split) <;> simp
theorem tksL_len : ∀ (f : Bool) (L : List Tk), (tksL f L).length ≤ 9 * L.length
  | _, [] => Nat.zero_le _
  | f, t :: r => by
    have h1 := tkT_len t
    have h2 := tksL_len false r
    rw [tksL, List.length_append, List.length_append, List.length_cons]
    split
    · simp; omega
    · simp; omega
theorem tksL_snoc : ∀ (f : Bool) (L : List Tk) (x : Tk), tksL f (L ++ [x]) = tksL f L ++ ((if (f && L.isEmpty) || decide (x.k = 2) then [] else [32]) ++ tkT x)
  | f, [], x => by simp [tksL]
  | f, t :: r, x => by
    rw [List.cons_append, tksL, tksL, tksL_snoc false r x]
    simp
theorem wordB_all {l : List UInt8} (h : wordB l = true) : (∀ x ∈ l, isL x = true) ∧ 1 ≤ l.length ∧ l.length ≤ 8 := by
  unfold wordB at h
  rw [Bool.and_eq_true, decide_eq_true_eq, List.all_eq_true] at h
  exact ⟨h.1, h.2⟩
theorem isL_no {x : UInt8} (h : isL x = true) : x ≠ 32 ∧ x ≠ 10 ∧ mkT x = none := by
  have h1 : x ≠ 32 := fun e => by subst e; revert h; decide
  have h2 : x ≠ 10 := fun e => by subst e; revert h; decide
  have h3 : x ≠ 59 := fun e => by subst e; revert h; decide
  have h4 : x ≠ 123 := fun e => by subst e; revert h; decide
  have h5 : x ≠ 125 := fun e => by subst e; revert h; decide
  exact ⟨h1, h2, by unfold mkT; rw [if_neg h3, if_neg h4, if_neg h5]⟩
theorem take_stop : ∀ (w r : List UInt8), (∀ x ∈ w, isL x = true) → (∀ x, r.head? = some x → isL x = false) → (w ++ r).takeWhile isL = w ∧ (w ++ r).dropWhile isL = r
  | [], [], _, _ => ⟨rfl, rfl⟩
  | [], x :: r, _, h => by
    have := h x rfl
    simp [this]
  | x :: w, r, h, h2 => by
    have h3 := h x List.mem_cons_self
    obtain ⟨e1, e2⟩ := take_stop w r (fun y hy => h y (List.mem_cons_of_mem _ hy)) h2
    rw [List.cons_append, List.takeWhile_cons, List.dropWhile_cons, h3, if_pos rfl, if_pos rfl, e1, e2]
    exact ⟨rfl, rfl⟩
/-- A word at the head is read. -/
theorem tz_word {w r : List UInt8} {out : List Tk} (hw : wordB w = true) (hr : ∀ x, r.head? = some x → isL x = false) (ho : out.length ≠ 160) : tz (w ++ r) out = tz r (out ++ [⟨1, w⟩]) := by
  obtain ⟨hall, h1, h8⟩ := wordB_all hw
  cases w with
  | nil => simp at h1
  | cons x w =>
    obtain ⟨n1, n2, n3⟩ := isL_no (hall x List.mem_cons_self)
    obtain ⟨e1, e2⟩ := take_stop w r (fun y hy => hall y (List.mem_cons_of_mem _ hy)) hr
    rw [List.cons_append, tz, if_neg (by simp [n1, n2]), n3]
    simp only
    rw [e1, e2, if_pos ⟨hall x List.mem_cons_self, hw, ho⟩]
theorem tz_mark {x : UInt8} {t : Tk} {r : List UInt8} {out : List Tk} (h : mkT x = some t) (hx : x ≠ 32 ∧ x ≠ 10) (ho : out.length ≠ 160) : tz (x :: r) out = tz r (out ++ [t]) := by
  rw [tz, if_neg (by simp [hx.1, hx.2]), h]
  simp only
  rw [if_neg ho]
/-- What a token that has a text is. -/
theorem tkT_cases {t : Tk} (h : tkT t ≠ []) : (t.k = 1 ∧ wordB t.s = true ∧ tkT t = t.s) ∨ (∃ x, mkT x = some t ∧ tkT t = [x] ∧ x ≠ 32 ∧ x ≠ 10) := by
  unfold tkT at h ⊢
  split
  · rename_i h1; exact .inl ⟨h1.1, h1.2, rfl⟩
  · rename_i h1
    rw [if_neg h1] at h
    obtain ⟨k, s⟩ := t
    simp only at h ⊢
    by_cases h2 : s = [] ∧ k = 2
    · obtain ⟨rfl, rfl⟩ := h2
      exact .inr ⟨59, rfl, by simp, by decide, by decide⟩
    · rw [if_neg h2] at h ⊢
      by_cases h3 : s = [] ∧ k = 3
      · obtain ⟨rfl, rfl⟩ := h3
        exact .inr ⟨123, rfl, by simp, by decide, by decide⟩
      · rw [if_neg h3] at h ⊢
        by_cases h4 : s = [] ∧ k = 4
        · obtain ⟨rfl, rfl⟩ := h4
          exact .inr ⟨125, rfl, by simp, by decide, by decide⟩
        · rw [if_neg h4] at h
          exact absurd rfl h
theorem mkT_no {x : UInt8} {t : Tk} (h : mkT x = some t) : isL x = false := by
  unfold mkT at h
  split at h
  · rename_i e; subst e; decide
  · split at h
    · rename_i e; subst e; decide
    · split at h
      · rename_i e; subst e; decide
      · cases h
/-- What follows a token in a text begins with no letter. -/
theorem tks_head : ∀ (L : List Tk), (∀ t ∈ L, tkT t ≠ []) → ∀ x, (tksL false L).head? = some x → isL x = false
  | [], _, x, hx => by simp [tksL] at hx
  | t :: r, h, x, hx => by
    rw [tksL] at hx
    by_cases h2 : t.k = 2
    · rw [if_pos (by simp [h2]), List.nil_append] at hx
      have ht := h t List.mem_cons_self
      rcases tkT_cases ht with ⟨h1, _, _⟩ | ⟨y, hy, he, _, _⟩
      · omega
      · rw [he] at hx
        simp at hx
        subst hx
        exact mkT_no hy
    · rw [if_neg (by simp [h2])] at hx
      simp at hx
      subst hx
      decide
/-- The text of a list of tokens, each with a text, is read as that list. -/
theorem tz_tks : ∀ (L : List Tk) (f : Bool) (out : List Tk), (∀ t ∈ L, tkT t ≠ []) → out.length + L.length ≤ 160 → tz (tksL f L) out = some (out ++ L)
  | [], f, out, _, _ => by rw [tksL, tz, List.append_nil]
  | t :: r, f, out, h, hl => by
    have hl' : out.length ≠ 160 := by rw [List.length_cons] at hl; omega
    have hr : ∀ t ∈ r, tkT t ≠ [] := fun x hx => h x (List.mem_cons_of_mem _ hx)
    have ih := tz_tks r false (out ++ [t]) hr (by simp at hl ⊢; omega)
    have key : tz (tkT t ++ tksL false r) out = some (out ++ t :: r) := by
      rcases tkT_cases (h t List.mem_cons_self) with ⟨h1, h2, h3⟩ | ⟨x, hx, he, n1, n2⟩
      · rw [h3, tz_word h2 (tks_head r hr) hl', show (⟨1, t.s⟩ : Tk) = t by obtain ⟨k, s⟩ := t; simp only at h1; subst h1; rfl, ih]
        simp
      · rw [he, List.singleton_append, tz_mark hx ⟨n1, n2⟩ hl', ih]
        simp
    rw [tksL]
    split
    · rw [List.nil_append]; exact key
    · rw [List.singleton_append, tz, if_pos (.inl rfl)]; exact key
theorem tkT_mark {x : UInt8} {t : Tk} (h : mkT x = some t) : tkT t ≠ [] := by
  unfold mkT at h
  split at h
  · cases h; decide
  · split at h
    · cases h; decide
    · split at h
      · cases h; decide
      · cases h
/-- What a text is read as. -/
theorem tz_ok : ∀ (n : Nat) (l : List UInt8) (out L : List Tk), l.length ≤ n → tz l out = some L → (∀ t ∈ out, tkT t ≠ []) → out.length ≤ 160 → (∀ t ∈ L, tkT t ≠ []) ∧ L.length ≤ 160
  | _, [], out, L, _, h, ho, hl => by rw [tz] at h; cases h; exact ⟨ho, hl⟩
  | 0, x :: r, _, _, hn, _, _, _ => by simp at hn
  | n + 1, x :: r, out, L, hn, h, ho, hl => by
    rw [List.length_cons] at hn
    rw [tz] at h
    split at h
    · exact tz_ok n r out L (by omega) h ho hl
    · split at h
      · rename_i t ht
        split at h
        · cases h
        · rename_i h160
          refine tz_ok n r _ L (by omega) h (fun y hy => ?_) (by simp; omega)
          rcases List.mem_append.1 hy with hy | hy
          · exact ho y hy
          · rw [List.mem_singleton] at hy; subst hy; exact tkT_mark ht
      · split at h
        · rename_i hc
          refine tz_ok n _ _ L (by have := drop_le isL r; omega) h (fun y hy => ?_) (by simp; omega)
          rcases List.mem_append.1 hy with hy | hy
          · exact ho y hy
          · rw [List.mem_singleton] at hy; subst hy
            unfold tkT
            rw [if_pos ⟨rfl, hc.2.1⟩]
            exact List.cons_ne_nil _ _
        · cases h
end Go.Proofs.Ytgicldokglpimaa
