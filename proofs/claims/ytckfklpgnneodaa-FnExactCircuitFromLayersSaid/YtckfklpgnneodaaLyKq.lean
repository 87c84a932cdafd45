/- Plain: layers that share no qubit, told by their own layers. -/
import Derived.Test.YtckfklpgnneodaaLyF
import Derived.Test.YtckfklpgnneodaaBaseB06
namespace Go.Proofs.Ytckfklpgnneodaa
theorem layL_ge : ∀ (L : List Gt) (M : List (List Gt)), M.length ≤ (layL M L).length
  | [], M => Nat.le_refl _
  | g :: L, M => by
    rw [layL]
    have h1 := layL_ge L (layG M g)
    have h2 := layG_len M g
    omega
theorem layL_one : ∀ (L : List Gt) (M : List (List Gt)), (layL M L).length ≤ 1 → (layL M L).flatten = M.flatten ++ L
  | [], M, _ => by simp [layL]
  | g :: L, M, h => by
    rw [layL] at h ⊢
    have h1 := layL_ge L (layG M g)
    have h2 := layG_len M g
    have h0 : layAt M g = 0 := by omega
    have h3 : M.length ≤ 1 := by omega
    rw [layL_one L (layG M g) h]
    have e : (layG M g).flatten = M.flatten ++ [g] := by
      unfold layG
      rw [h0]
      cases M with
      | nil => rfl
      | cons x M =>
        have hM : M = [] := List.length_eq_zero_iff.1 (by rw [List.length_cons] at h3; omega)
        subst hM
        rw [if_neg (by simp)]
        simp
    rw [e]
    simp
theorem layL_ok_one {l : List Gt} (h : lyOk l) : ∀ k, k ≤ l.length → layL [] (l.take k) = if k = 0 then [] else [l.take k]
  | 0, _ => by simp [layL]
  | k + 1, hk => by
    have ih := layL_ok_one h k (by omega)
    obtain ⟨g, hg⟩ : ∃ x, l[k]? = some x := ⟨l[k], List.getElem?_eq_getElem (by omega)⟩
    have hn := h k g hg
    rw [List.take_add_one, hg, layL_app, ih]
    show layG _ g = _
    cases k with
    | zero => rfl
    | succ k =>
      rw [if_neg (by omega), if_neg (by omega)]
      have h0 : layAt [l.take (k + 1)] g = 0 := by
        show (if anyG ([l.take (k + 1)].getD 0 []) g then 1 else 0) = 0
        rw [if_neg (by rw [show [l.take (k + 1)].getD 0 [] = l.take (k + 1) from rfl, hn]; decide)]
      unfold layG
      rw [h0, if_neg (by simp)]
      rfl
/-- A valid list has at most one layer just where no two of its gates share a qubit. -/
theorem share_iff {n : Int} {r : List Gt} (k : ciB n r = true) : (lysM n r).length ≤ 1 ↔ lyOk r := by
  have e : lysM n r = layL [] r := if_pos k
  rw [e]
  constructor
  · intro h
    have h1 := layL_one r [] h
    have h2 : ∀ l ∈ layL [] r, lyOk l := layL_ok fun l h => absurd h (by simp)
    simp only [List.flatten_nil, List.nil_append] at h1
    cases hc : layL [] r with
    | nil =>
      rw [hc] at h1
      simp at h1
      subst h1
      exact lyOk_nil
    | cons x M =>
      rw [hc] at h h1 h2
      have hM : M = [] := List.length_eq_zero_iff.1 (by rw [List.length_cons] at h; omega)
      subst hM
      have hx : x = r := by simpa using h1
      rw [← hx]
      exact h2 x (by simp)
  · intro h
    have h1 := layL_ok_one h r.length (Nat.le_refl _)
    rw [List.take_length] at h1
    rw [h1]
    split <;> simp
theorem ciB_sub {n : Int} {L R : List Gt} (h : ciB n L = true) (hs : ∀ g ∈ R, g ∈ L) (hl : R.length ≤ L.length) : ciB n R = true := by
  obtain ⟨h1, h2, h3⟩ := ciB_parts h
  exact ciB_of (fun g hg => h1 g (hs g hg)) h2 (by omega)
open Classical in
/-- A layer of its own shares a qubit: the answer is no. -/
theorem cfB_share {n : Int} {M : List (List Gt)} {r : List Gt} (hr : r ∈ M) (h : 1 < (lysM n r).length) : cfB n M = false := by
  have hc : ciB n r = true := by
    cases hc : ciB n r with
    | true => rfl
    | false =>
      have : lysM n r = [] := if_neg (by rw [hc]; decide)
      rw [this] at h
      simp at h
  have hn : ¬ lyOk r := fun hk => by
    have := (share_iff hc).2 hk
    omega
  unfold cfB
  rw [Bool.and_eq_false_iff]
  exact .inl (decide_eq_false fun hall => hn (hall r hr))
theorem cfB_long {n : Int} {M : List (List Gt)} (h : 60 < M.flatten.length) : cfB n M = false := by
  have hc : ciB n M.flatten = false := by
    cases hc : ciB n M.flatten with
    | false => rfl
    | true =>
      have := (ciB_parts hc).2.2
      omega
  unfold cfB
  rw [hc, Bool.and_false]
theorem cfB_valid {n : Int} {M : List (List Gt)} (h : ∀ l ∈ M, ¬ 1 < (lysM n l).length) : cfB n M = ciB n M.flatten := by
  cases hc : ciB n M.flatten with
  | false => unfold cfB; rw [hc, Bool.and_false]
  | true =>
    rw [cfB_all, hc]
    intro l hl
    have hcl : ciB n l = true := ciB_sub hc (fun g hg => List.mem_flatten.2 ⟨l, hl, hg⟩) (len_flat hl)
    exact (share_iff hcl).1 (by have := h l hl; omega)
end Go.Proofs.Ytckfklpgnneodaa
