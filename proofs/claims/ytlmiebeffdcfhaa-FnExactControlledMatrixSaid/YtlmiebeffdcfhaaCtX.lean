/- Plain: a controlled matrix, an entry at a time. -/
import Derived.Test.YtlmiebeffdcfhaaCtD
import Derived.Test.YtlmiebeffdcfhaaBaseB15
namespace Go.Proofs.Ytlmiebeffdcfhaa
/-- Whether an entry keeps the control. -/
def kpC (q : Nat) (M : List (List Dw)) (i k : Nat) : Bool := bitN i q == bitN k q || decide ((M.getD i []).getD k .zero = .zero)
def kpR (q : Nat) (M : List (List Dw)) (i : Nat) : Bool := (List.range M.length).all fun k => kpC q M i k
def kpB (q : Nat) (M : List (List Dw)) : Bool := (List.range M.length).all fun i => kpR q M i
theorem ctMB_eq (q : Int) (M : List (List Dw)) : ctMB q M = (mtB M && (decide (0 ≤ q ∧ q ≤ qc M.length - 1) && kpB q.toNat M)) := rfl
theorem kpC_at {q : Nat} {M : List (List Dw)} {i k : Nat} {r : List Dw} {x : Dw} (hr : M[i]? = some r) (hx : r[k]? = some x) : kpC q M i k = (bitN i q == bitN k q || decide (x = .zero)) := by
  unfold kpC
  rw [List.getD_eq_getElem?_getD, List.getD_eq_getElem?_getD, hr, Option.getD_some, hx, Option.getD_some]
theorem kpR_no {q : Nat} {M : List (List Dw)} {i k : Nat} (hk : k < M.length) (h : kpC q M i k = false) : kpR q M i = false := by
  unfold kpR
  rw [List.all_eq_false]
  exact ⟨k, List.mem_range.2 hk, by rw [h]; decide⟩
theorem kpB_no {q : Nat} {M : List (List Dw)} {i k : Nat} (hi : i < M.length) (hk : k < M.length) (h : kpC q M i k = false) : kpB q M = false := by
  unfold kpB
  rw [List.all_eq_false]
  exact ⟨i, List.mem_range.2 hi, by rw [kpR_no hk h]; decide⟩
theorem kpR_yes {q : Nat} {M : List (List Dw)} {i : Nat} (h : ∀ k, k < M.length → kpC q M i k = true) : kpR q M i = true := by
  unfold kpR
  rw [List.all_eq_true]
  exact fun k hk => h k (List.mem_range.1 hk)
theorem kpB_yes {q : Nat} {M : List (List Dw)} (h : ∀ i, i < M.length → kpR q M i = true) : kpB q M = true := by
  unfold kpB
  rw [List.all_eq_true]
  exact fun i hi => h i (List.mem_range.1 hi)
/-- Row i of the controlled matrix. -/
def ctRow (q : Nat) (M : List (List Dw)) (i : Nat) : List Dw := (List.range M.length).map fun k => if bitN k q then (M.getD i []).getD k .zero else if k = i then oneD else .zero
theorem ctV_eq (q : Nat) (M : List (List Dw)) : ctV q M = (List.range M.length).map (ctRow q M) := rfl
theorem ctV_len (q : Nat) (M : List (List Dw)) : (ctV q M).length = M.length := by rw [ctV_eq, List.length_map, List.length_range]
theorem ctRow_len (q : Nat) (M : List (List Dw)) (i : Nat) : (ctRow q M i).length = M.length := by rw [ctRow, List.length_map, List.length_range]
theorem ctV_row {q : Nat} {M : List (List Dw)} {i : Nat} (h : i < M.length) : (ctV q M)[i]? = some (ctRow q M i) := by rw [ctV_eq, List.getElem?_map, List.getElem?_range h]; rfl
theorem ctRow_yes {q : Nat} {M : List (List Dw)} {i k : Nat} {r : List Dw} {x : Dw} (hk : k < M.length) (hr : M[i]? = some r) (hx : r[k]? = some x) (hb : bitN k q = true) : (ctRow q M i)[k]? = some x := by
  rw [ctRow, List.getElem?_map, List.getElem?_range hk, Option.map_some, hb, if_pos rfl, List.getD_eq_getElem?_getD, List.getD_eq_getElem?_getD, hr, Option.getD_some, hx, Option.getD_some]
theorem ctRow_no {q : Nat} {M : List (List Dw)} {i k : Nat} (hk : k < M.length) (hb : bitN k q = false) : (ctRow q M i)[k]? = some (if k = i then oneD else .zero) := by
  rw [ctRow, List.getElem?_map, List.getElem?_range hk, Option.map_some, hb, if_neg (by decide)]
/-- The identity's row. -/
def idRow (N i : Nat) : List Dw := (List.replicate N .zero).set i oneD
theorem idRow_len (N i : Nat) : (idRow N i).length = N := by rw [idRow, List.length_set, List.length_replicate]
theorem idRow_at {N i k : Nat} (hk : k < N) (_ : i < N) : (idRow N i)[k]? = some (if k = i then oneD else .zero) := by
  unfold idRow
  by_cases e : k = i
  · subst e
    rw [if_pos rfl, List.getElem?_set_self (by rw [List.length_replicate]; exact hk)]
  · rw [if_neg e, List.getElem?_set_ne (fun h => e h.symm), List.getElem?_replicate, if_pos hk]
theorem idM_row {N i : Nat} (hq : 0 < qc N) (h : i < N) : (idM (qc N))[i]? = some (idRow N i) := by
  rcases (show N = 2 ∨ N = 4 ∨ N = 8 ∨ N = 16 by unfold qc at hq; (repeat' split at hq) <;> omega) with rfl | rfl | rfl | rfl
  · have e : (2 : Int) ^ (1 : Int).toNat = 2 := rfl
    rw [show qc 2 = 1 from rfl, idM_yes (by decide), List.getElem?_map, List.getElem?_range (show i < 2 ^ (1 : Int).toNat from h)]
    show some (basisL 1 _) = _
    unfold basisL
    rw [if_pos ⟨by decide, by decide, by omega, by rw [e]; omega⟩]
    rfl
  · have e : (2 : Int) ^ (2 : Int).toNat = 4 := rfl
    rw [show qc 4 = 2 from rfl, idM_yes (by decide), List.getElem?_map, List.getElem?_range (show i < 2 ^ (2 : Int).toNat from h)]
    show some (basisL 2 _) = _
    unfold basisL
    rw [if_pos ⟨by decide, by decide, by omega, by rw [e]; omega⟩]
    rfl
  · have e : (2 : Int) ^ (3 : Int).toNat = 8 := rfl
    rw [show qc 8 = 3 from rfl, idM_yes (by decide), List.getElem?_map, List.getElem?_range (show i < 2 ^ (3 : Int).toNat from h)]
    show some (basisL 3 _) = _
    unfold basisL
    rw [if_pos ⟨by decide, by decide, by omega, by rw [e]; omega⟩]
    rfl
  · have e : (2 : Int) ^ (4 : Int).toNat = 16 := rfl
    rw [show qc 16 = 4 from rfl, idM_yes (by decide), List.getElem?_map, List.getElem?_range (show i < 2 ^ (4 : Int).toNat from h)]
    show some (basisL 4 _) = _
    unfold basisL
    rw [if_pos ⟨by decide, by decide, by omega, by rw [e]; omega⟩]
    rfl
theorem idM_lenq {N : Nat} (hq : 0 < qc N) : (idM (qc N)).length = N := by
  rcases (show N = 2 ∨ N = 4 ∨ N = 8 ∨ N = 16 by unfold qc at hq; (repeat' split at hq) <;> omega) with rfl | rfl | rfl | rfl <;> rfl
/-- A list that is half written. -/
theorem mixL_at {α : Type} {A B : List α} {k : Nat} (hl : A.length = B.length) {y : α} (hy : B[k]? = some y) : (A.take k ++ B.drop k)[k]? = some y := by
  have hk : k < B.length := by
    rcases Nat.lt_or_ge k B.length with h | h
    · exact h
    · rw [List.getElem?_eq_none h] at hy; cases hy
  rw [List.getElem?_append_right (by rw [List.length_take]; omega), List.length_take, List.getElem?_drop, show k + (k - min k A.length) = k by omega, hy]
theorem mixL_set {α : Type} {A B : List α} {k : Nat} (hl : A.length = B.length) {x : α} (hx : A[k]? = some x) : (A.take k ++ B.drop k).set k x = A.take (k + 1) ++ B.drop (k + 1) := by
  have hk : k < A.length := by
    rcases Nat.lt_or_ge k A.length with h | h
    · exact h
    · rw [List.getElem?_eq_none h] at hx; cases hx
  have e : (A.take k).length = k := by rw [List.length_take]; omega
  rw [List.set_append_right _ _ (by omega), e, Nat.sub_self, List.drop_eq_getElem_cons (show k < B.length by omega), List.set_cons_zero, List.take_add_one, hx]
  simp
theorem mixL_same {α : Type} {A B : List α} {k : Nat} (hl : A.length = B.length) {x : α} (hx : A[k]? = some x) (hy : B[k]? = some x) : A.take (k + 1) ++ B.drop (k + 1) = A.take k ++ B.drop k := by
  rw [← mixL_set hl hx]
  have h := mixL_at hl hy
  refine List.ext_getElem? fun i => ?_
  by_cases e : i = k
  · subst e
    rw [List.getElem?_set_self (by
      rcases Nat.lt_or_ge i (A.take i ++ B.drop i).length with h' | h'
      · exact h'
      · rw [List.getElem?_eq_none h'] at h; cases h), h]
  · rw [List.getElem?_set_ne (fun h => e h.symm)]
theorem mixL_len {α : Type} {A B : List α} {k : Nat} (hl : A.length = B.length) (hk : k ≤ B.length) : (A.take k ++ B.drop k).length = B.length := by
  rw [List.length_append, List.length_take, List.length_drop]; omega
/-- A bit, as a number. -/
def bitZ (i q : Nat) : Int := if bitN i q then 1 else 0
theorem bitZ_all : ∀ i : Fin 16, ∀ q : Fin 4, bits .and .i64 (((i.val : Nat) : Int) / 2 ^ q.val) 1 = bitZ i.val q.val := by decide +kernel
theorem bitZ_bits {i q : Nat} (hi : i < 16) (hq : q < 4) : bits .and .i64 ((i : Int) / 2 ^ q) 1 = bitZ i q := bitZ_all ⟨i, hi⟩ ⟨q, hq⟩
theorem bitZ_eq {i k q : Nat} : (bitZ i q != bitZ k q) = !(bitN i q == bitN k q) := by
  unfold bitZ
  cases bitN i q <;> cases bitN k q <;> rfl
theorem bitZ_one {i q : Nat} : (bitZ i q == 1) = bitN i q := by
  unfold bitZ
  cases bitN i q <;> rfl
theorem xorZ_all : ∀ i : Fin 16, ∀ k : Fin 16, ∀ q : Fin 4, bits .and .i64 (bits .xor .i64 ((i.val : Nat) : Int) ((k.val : Nat) : Int) / 2 ^ q.val) 1 = if bitN i.val q.val == bitN k.val q.val then 0 else 1 := by decide +kernel
theorem xorZ_bits {i k q : Nat} (hi : i < 16) (hk : k < 16) (hq : q < 4) : bits .and .i64 (bits .xor .i64 (i : Int) (k : Int) / 2 ^ q) 1 = if bitN i q == bitN k q then 0 else 1 := xorZ_all ⟨i, hi⟩ ⟨k, hk⟩ ⟨q, hq⟩
end Go.Proofs.Ytlmiebeffdcfhaa
