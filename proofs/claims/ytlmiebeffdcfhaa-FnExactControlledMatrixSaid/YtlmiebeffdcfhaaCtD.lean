/- Plain: controlled gates, lists of them, matrices: what the functions answer. -/
import Derived.Test.YtlmiebeffdcfhaaBn
import Derived.Test.YtlmiebeffdcfhaaBaseB09
import Derived.Test.YtlmiebeffdcfhaaMtP
import Derived.Test.YtlmiebeffdcfhaaInvL
namespace Go.Proofs.Ytlmiebeffdcfhaa
/-- ControlledGate's gates. -/
def ctL (q : Int) (g : Gt) : List Gt :=
  if g.k = 1 then [⟨9, q, g.a, 0⟩]
  else if g.k = 2 then [⟨6, g.a, 0, 0⟩, ⟨9, q, g.a, 0⟩, ⟨5, g.a, 0, 0⟩]
  else if g.k = 3 then [⟨10, q, g.a, 0⟩]
  else if g.k = 4 then [⟨6, g.a, 0, 0⟩, ⟨4, g.a, 0, 0⟩, ⟨8, g.a, 0, 0⟩, ⟨9, q, g.a, 0⟩, ⟨7, g.a, 0, 0⟩, ⟨4, g.a, 0, 0⟩, ⟨5, g.a, 0, 0⟩]
  else if g.k = 5 then [⟨7, q, 0, 0⟩, ⟨7, g.a, 0, 0⟩, ⟨9, q, g.a, 0⟩, ⟨8, g.a, 0, 0⟩, ⟨9, q, g.a, 0⟩]
  else if g.k = 6 then [⟨8, q, 0, 0⟩, ⟨8, g.a, 0, 0⟩, ⟨9, q, g.a, 0⟩, ⟨7, g.a, 0, 0⟩, ⟨9, q, g.a, 0⟩]
  else if g.k = 9 then [⟨12, q, g.a, g.b⟩]
  else if g.k = 10 then [⟨4, g.b, 0, 0⟩, ⟨12, q, g.a, g.b⟩, ⟨4, g.b, 0, 0⟩]
  else if g.k = 11 then [⟨9, g.b, g.a, 0⟩, ⟨12, q, g.a, g.b⟩, ⟨9, g.b, g.a, 0⟩]
  else []
/-- Which kinds can be controlled. -/
def ctK (k : Int) : Bool := decide ((1 ≤ k ∧ k ≤ 6) ∨ (9 ≤ k ∧ k ≤ 11))
/-- What ControlledGate takes. -/
def ctCan (q : Int) (g : Gt) : Prop := gtB g 4 = true ∧ (0 ≤ q ∧ q < 4) ∧ q ∉ gqs g ∧ ctK g.k = true
def ctLL (q : Int) (L : List Gt) : List Gt := L.flatMap (ctL q)
/-- ControlledMatrix's matrix. -/
def ctV (q : Nat) (M : List (List Dw)) : List (List Dw) := (List.range M.length).map fun k => (List.range M.length).map fun i => if bitN i q then (M.getD k []).getD i .zero else if i = k then oneD else .zero
/-- ControlledMatrix. -/
def ctMB (q : Int) (M : List (List Dw)) : Bool := mtB M && (decide (0 ≤ q ∧ q ≤ qc M.length - 1) && (List.range M.length).all fun i => (List.range M.length).all fun k => bitN i q.toNat == bitN k q.toNat || decide ((M.getD i []).getD k .zero = .zero))
def ctM (q : Int) (M : List (List Dw)) : List (List Dw) := if ctMB q M then ctV q.toNat M else []
/-- Whether ControlledGate takes it; what it answers; the same for lists. -/
def ctB (q : Int) (g : Gt) : Bool := gtB g 4 && (decide (0 ≤ q ∧ q < 4) && (!decide (q ∈ gqs g) && ctK g.k))
def ctR (q : Int) (g : Gt) : List Gt := if ctB q g then ctL q g else []
def ctBs (q : Int) (L : List Gt) : Bool := L.all (ctB q)
def ctRs (q : Int) (L : List Gt) : List Gt := if ctBs q L then ctLL q L else []
theorem ctB_iff {q : Int} {g : Gt} : ctB q g = true ↔ ctCan q g := by
  unfold ctB ctCan
  simp only [Bool.and_eq_true, decide_eq_true_eq, Bool.not_eq_true', decide_eq_false_iff_not]
theorem ctBs_iff {q : Int} {L : List Gt} : ctBs q L = true ↔ ∀ g ∈ L, ctCan q g := by
  unfold ctBs
  rw [List.all_eq_true]
  exact ⟨fun h g hg => ctB_iff.1 (h g hg), fun h g hg => ctB_iff.2 (h g hg)⟩
theorem ctL_len (q : Int) (g : Gt) : (ctL q g).length ≤ 7 := by
  unfold ctL
  (repeat' split) <;> simp
theorem ctR_len (q : Int) (g : Gt) : (ctR q g).length ≤ 7 := by
  unfold ctR
  split
  · exact ctL_len q g
  · simp
theorem ctLL_len (q : Int) : ∀ L : List Gt, (ctLL q L).length ≤ 7 * L.length
  | [] => Nat.le_refl _
  | g :: L => by
    have h1 := ctLL_len q L
    have h2 := ctL_len q g
    rw [show ctLL q (g :: L) = ctL q g ++ ctLL q L from rfl, List.length_append, List.length_cons]
    omega
theorem ctRs_len (q : Int) (L : List Gt) : (ctRs q L).length ≤ 7 * L.length := by
  unfold ctRs
  split
  · exact ctLL_len q L
  · simp
theorem ctLL_step {q : Int} {L : List Gt} {j : Nat} {x : Gt} (hx : L[j]? = some x) : ctLL q (L.take (j + 1)) = ctLL q (L.take j) ++ ctL q x := by
  unfold ctLL
  rw [List.take_add_one, hx, List.flatMap_append]
  simp
theorem ctLL_take (q : Int) (L : List Gt) (j : Nat) : (ctLL q (L.take j)).length ≤ 7 * L.length := by
  have h1 := ctLL_len q (L.take j)
  have h2 : (L.take j).length ≤ L.length := by rw [List.length_take]; omega
  omega
/-- Distinct qubits with one more. -/
theorem dq_snoc (l : List Int) (q n : Int) : dq (l ++ [q]) n = (dq l n && (decide (0 ≤ q ∧ q < n) && !decide (q ∈ l))) := by
  unfold dq
  rw [List.length_append, List.length_singleton, List.range_succ, List.all_append]
  congr 1
  · rw [Bool.eq_iff_iff, List.all_eq_true, List.all_eq_true]
    refine forall_congr' fun j => forall_congr' fun hj => ?_
    have hj := List.mem_range.1 hj
    unfold dqOk
    rw [List.getD_eq_getElem?_getD, List.getD_eq_getElem?_getD, List.getElem?_append_left hj, List.take_append_of_le_length (Nat.le_of_lt hj)]
  · simp only [List.all_cons, List.all_nil, Bool.and_true]
    unfold dqOk
    rw [List.getD_eq_getElem?_getD, List.getElem?_append_right (Nat.le_refl _), Nat.sub_self, List.take_append_of_le_length (Nat.le_refl _), List.take_length]
    rfl
theorem dq_gqs {g : Gt} (h : gtB g 4 = true) : dq (gqs g) 4 = true := by
  have hk := (gtB_parts h).2.1
  obtain ⟨k, a, b, c⟩ := g
  by_cases h1 : k ≤ 8
  · have e : ar k = 1 := if_pos ⟨hk.1, h1⟩
    rw [gtB_1 e (by decide)] at h
    simp only [Bool.and_eq_true] at h
    have e2 : gqs ⟨k, a, b, c⟩ = [a] := by unfold gqs; simp only [e]; rfl
    rw [e2]; exact h.2
  by_cases h2 : k ≤ 11
  · have e : ar k = 2 := by unfold ar; rw [if_neg (by omega), if_pos (by omega)]
    rw [gtB_2 e (by decide)] at h
    simp only [Bool.and_eq_true] at h
    have e2 : gqs ⟨k, a, b, c⟩ = [a, b] := by unfold gqs; simp only [e]; rfl
    rw [e2]; exact h.2
  · simp only at hk
    obtain rfl : k = 12 := by omega
    rw [gtB_3 (by decide) (by decide)] at h
    exact h
end Go.Proofs.Ytlmiebeffdcfhaa
