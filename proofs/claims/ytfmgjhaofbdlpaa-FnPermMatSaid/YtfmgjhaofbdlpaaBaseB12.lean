/- BaseB12: several of our texts in one: MtP PmM DsQ DsKb. -/
import Derived.Test.YtfmgjhaofbdlpaaBaseB04
import Derived.Test.YtfmgjhaofbdlpaaPhM
import Derived.Test.YtfmgjhaofbdlpaaDsL
import Derived.Laws.CopyOwn
namespace Go.Proofs.Ytfmgjhaofbdlpaa
open Go.RowKit
/-- IsValidMatrix. -/
def mtB (M : List (List Dw)) : Bool := decide (0 < M.length) && M.all fun r => decide (r.length = M.length) && stB r
theorem mtB_iff {M : List (List Dw)} : mtB M = true ↔ 0 < M.length ∧ ∀ r ∈ M, r.length = M.length ∧ stB r = true := by
  unfold mtB
  rw [Bool.and_eq_true, decide_eq_true_eq, List.all_eq_true]
  simp only [Bool.and_eq_true, decide_eq_true_eq]
theorem mtB_qc {M : List (List Dw)} (h : mtB M = true) : 0 < qc M.length := by
  obtain ⟨h0, h1⟩ := mtB_iff.1 h
  obtain ⟨e, s⟩ := h1 M[0] (List.getElem_mem h0)
  rw [← e]
  exact (stB_iff.1 s).2
theorem mtB_len {M : List (List Dw)} (h : mtB M = true) : M.length ≤ 16 := by have := qc_len (mtB_qc h); omega
theorem mtB_row {M : List (List Dw)} (h : mtB M = true) {j : Nat} {r : List Dw} (hr : M[j]? = some r) : r.length = M.length ∧ stB r = true := (mtB_iff.1 h).2 r (List.mem_of_getElem? hr)
/-- IdentityMatrix. -/
def idM (n : Int) : List (List Dw) := if 1 ≤ n ∧ n ≤ 4 then (List.range (2 ^ n.toNat)).map fun (i : Nat) => basisL n (i : Int) else []
/-- The sum of a row and a state, from a sum on. -/
def mrow : Dw → List (Dw × Dw) → Option Dw
  | s, [] => some s
  | s, p :: r => if p.1 = .zero ∨ p.2 = .zero then mrow s r else if dMulB p.1 p.2 && dAddB s (dMulV p.1 p.2) then mrow (dAddV s (dMulV p.1 p.2)) r else none
def rowO (r v : List Dw) : Option Dw := mrow .zero (r.zip v)
def rowV (r v : List Dw) : Dw := (rowO r v).getD .zero
def rowB (r v : List Dw) : Bool := (rowO r v).isSome
/-- ApplyMatrix. -/
def appB (M : List (List Dw)) (v : List Dw) : Bool := mtB M && stB v && decide (M.length = v.length) && M.all fun r => rowB r v
def appL (M : List (List Dw)) (v : List Dw) : List Dw := if appB M v then M.map fun r => rowV r v else []
theorem appL_len {M : List (List Dw)} {v : List Dw} (h : appB M v = true) : (appL M v).length = M.length := by rw [appL, if_pos h, List.length_map]
/-- Columns. -/
def col (M : List (List Dw)) (k : Nat) : List Dw := M.map fun r => r.getD k .zero
def colsM (L : List (List Dw)) : List (List Dw) := (List.range L.length).map fun i => col L i
theorem col_len (M : List (List Dw)) (k : Nat) : (col M k).length = M.length := by rw [col, List.length_map]
theorem colsM_len (L : List (List Dw)) : (colsM L).length = L.length := by rw [colsM, List.length_map, List.length_range]
/-- MulMatrix. -/
def mulMB (A B : List (List Dw)) : Bool := mtB A && mtB B && decide (A.length = B.length) && (List.range B.length).all fun k => appB A (col B k)
def mulML (A B : List (List Dw)) : List (List Dw) := (List.range B.length).map fun k => appL A (col B k)
def mulM (A B : List (List Dw)) : List (List Dw) := if mulMB A B then colsM (mulML A B) else []
/-- AdjointMatrix. -/
def adjM (M : List (List Dw)) : List (List Dw) := if mtB M then (List.range M.length).map fun i => (col M i).map dConjV else []
/-- IsUnitary. -/
def uniB (M : List (List Dw)) : Bool := mtB M && mulMB (adjM M) M && decide (mulM (adjM M) M = idM (qc M.length))
/-- GlobalPhase. -/
def gpAt (A B : List (List Dw)) (i : Nat) : Bool := (A.zip B).all fun p => scaleB p.2 (dPh (i : Int)) && decide (scaleL p.2 (dPh (i : Int)) = p.1)
def gpF (A B : List (List Dw)) : Option Nat := if mtB A && mtB B && decide (A.length = B.length) then (List.range 8).find? (gpAt A B) else none
def gpB (A B : List (List Dw)) : Bool := (gpF A B).isSome
def gpV (A B : List (List Dw)) : Int := ((gpF A B).getD 0 : Nat)
end Go.Proofs.Ytfmgjhaofbdlpaa
namespace Go.Proofs.Ytfmgjhaofbdlpaa
/-- The first n integers. -/
def upI (n : Nat) : List Int := (List.range n).map fun (i : Nat) => (i : Int)
/-- IdentityPermutation. -/
def idP (n : Int) : List Int := if 1 ≤ n ∧ n ≤ 4 then upI n.toNat else []
theorem idP_len (n : Int) : (idP n).length ≤ 4 := by
  unfold idP
  split
  · rw [upI, List.length_map, List.length_range]; omega
  · exact Nat.zero_le _
/-- One place of a permutation: within the length, and met for the first time. -/
def plB (p : List Int) (i : Nat) : Bool := decide (0 ≤ p.getD i 0 ∧ p.getD i 0 ≤ (p.length : Int) - 1) && !decide (p.getD i 0 ∈ p.take i)
/-- IsPermutation. -/
def permB (p : List Int) : Bool := ((List.range p.length).all (plB p)) && decide (1 ≤ p.length ∧ p.length ≤ 4)
theorem permB_iff {p : List Int} : permB p = true ↔ (∀ i, i < p.length → plB p i = true) ∧ 1 ≤ p.length ∧ p.length ≤ 4 := by
  unfold permB
  rw [Bool.and_eq_true, List.all_eq_true, decide_eq_true_eq]
  exact ⟨fun h => ⟨fun i hi => h.1 i (List.mem_range.2 hi), h.2⟩, fun h => ⟨fun i hi => h.1 i (List.mem_range.1 hi), h.2⟩⟩
theorem permB_at {p : List Int} (h : permB p = true) {i : Nat} {x : Int} (hx : p[i]? = some x) : 0 ≤ x ∧ x < p.length := by
  have hi : i < p.length := by
    rcases Nat.lt_or_ge i p.length with h' | h'
    · exact h'
    · rw [List.getElem?_eq_none h'] at hx; cases hx
  have h1 := (permB_iff.1 h).1 i hi
  unfold plB at h1
  rw [Bool.and_eq_true, decide_eq_true_eq, List.getD_eq_getElem?_getD, hx] at h1
  have h2 := h1.1
  simp only [Option.getD_some] at h2
  omega
/-- An element by an integer. -/
def atI (q : List Int) (x : Int) : Int := q.getD x.toNat 0
/-- ComposePermutations. -/
def cmpP (p q : List Int) : List Int := if permB p && permB q && decide (p.length = q.length) then p.map (atI q) else []
/-- InversePermutation, after i steps. -/
def invS (p : List Int) : Nat → List Int
  | 0 => List.replicate p.length 0
  | i + 1 => (invS p i).set (p.getD i 0).toNat (i : Int)
def invP (p : List Int) : List Int := if permB p then invS p p.length else []
theorem invS_len (p : List Int) : ∀ i, (invS p i).length = p.length
  | 0 => by simp [invS]
  | i + 1 => by rw [invS, List.length_set, invS_len p i]
/-- PermuteIndex, after q steps. -/
def pixS (p : List Int) (i : Nat) : Nat → Nat
  | 0 => 0
  | q + 1 => pixS p i q ||| ((i >>> q &&& 1) <<< (p.getD q 0).toNat)
def pixB (p : List Int) (i : Int) : Bool := permB p && decide (0 ≤ i ∧ i ≤ 2 ^ p.length - 1)
def pix (p : List Int) (i : Int) : Int := if pixB p i then (pixS p i.toNat p.length : Nat) else 0
/-- PermutationMatrix. -/
def pmL (p : List Int) : List (List Dw) := (List.range (2 ^ p.length)).map fun (i : Nat) => basisL (p.length : Int) (pix p (i : Int))
def pmM (p : List Int) : List (List Dw) := if permB p then colsM (pmL p) else []
/-- All permutations that are valid. -/
def pers : Nat → List (List Int)
  | 0 => [[]]
  | n + 1 => (pers n).flatMap fun p => (List.range (n + 1)).map fun k => (p.take k) ++ (n : Int) :: (p.drop k)
def allP : List (List Int) := pers 1 ++ pers 2 ++ pers 3 ++ pers 4
theorem allP_ok : allP.all permB = true := by decide +kernel
theorem small_all : ∀ (n : Nat) (l : List Int), l.length = n → (∀ x ∈ l, 0 ≤ x ∧ x < 4) → l ∈ (List.range n).foldr (fun _ (acc : List (List Int)) => acc.flatMap fun t => [0, 1, 2, 3].map fun (x : Int) => x :: t) [[]]
  | 0, l, h, _ => by rw [List.eq_nil_of_length_eq_zero h]; simp
  | n + 1, [], h, _ => by cases h
  | n + 1, x :: l, h, hb => by
    have ih := small_all n l (by simpa using h) fun y hy => hb y (List.mem_cons_of_mem _ hy)
    have hx := hb x (List.mem_cons_self ..)
    have e : ∀ (m : Nat) (f : List (List Int) → List (List Int)) (a : List (List Int)), (List.range (m + 1)).foldr (fun _ acc => f acc) a = f ((List.range m).foldr (fun _ acc => f acc) a) := by
      intro m f a
      induction m generalizing a with
      | zero => rfl
      | succ m ih =>
        rw [List.range_succ, List.foldr_append, ih, List.range_succ, List.foldr_append]
        rfl
    rw [e n (fun acc => acc.flatMap fun t => [0, 1, 2, 3].map fun (x : Int) => x :: t)]
    refine List.mem_flatMap.2 ⟨l, ih, List.mem_map.2 ⟨x, ?_, rfl⟩⟩
    rcases (show x = 0 ∨ x = 1 ∨ x = 2 ∨ x = 3 by omega) with rfl | rfl | rfl | rfl <;> simp
/-- Every valid permutation is among them. -/
theorem perm_mem {p : List Int} (h : permB p = true) : p ∈ allP := by
  have hl := (permB_iff.1 h).2
  have hb : ∀ x ∈ p, 0 ≤ x ∧ x < 4 := fun x hx => by
    obtain ⟨i, hi⟩ := List.getElem?_of_mem hx
    have := permB_at h hi
    omega
  have key : ∀ n, n ≤ 4 → ∀ p ∈ (List.range n).foldr (fun _ (acc : List (List Int)) => acc.flatMap fun t => [0, 1, 2, 3].map fun (x : Int) => x :: t) [[]], permB p = true → p ∈ allP := by
    intro n hn
    rcases (show n = 0 ∨ n = 1 ∨ n = 2 ∨ n = 3 ∨ n = 4 by omega) with rfl | rfl | rfl | rfl | rfl <;> decide +kernel
  exact key p.length hl.2 p (small_all p.length p rfl hb) h
end Go.Proofs.Ytfmgjhaofbdlpaa
namespace Go.Proofs.Ytfmgjhaofbdlpaa
open Go.RowKit
theorem qc_cases (n : Nat) : (n = 2 ∧ qc n = 1) ∨ (n = 4 ∧ qc n = 2) ∨ (n = 8 ∧ qc n = 3) ∨ (n = 16 ∧ qc n = 4) ∨ (n ≠ 2 ∧ n ≠ 4 ∧ n ≠ 8 ∧ n ≠ 16 ∧ qc n = 0) := by
  unfold qc
  by_cases h2 : n = 2
  · simp [h2]
  · by_cases h4 : n = 4
    · simp [h4]
    · by_cases h8 : n = 8
      · simp [h8]
      · by_cases h16 : n = 16
        · simp [h16]
        · simp [h2, h4, h8, h16]
theorem all_take {α : Type} {p : α → Bool} {l : List α} {j : Nat} {x : α} (hx : l[j]? = some x) (h : (l.take j).all p = true) : (l.take (j + 1)).all p = p x := by
  rw [List.take_add_one, hx, List.all_append, h]
  simp
theorem all_no {α : Type} {p : α → Bool} {l : List α} {j : Nat} {x : α} (hx : l[j]? = some x) (h : p x = false) : l.all p = false := by
  rw [List.all_eq_false]
  exact ⟨x, List.mem_of_getElem? hx, by simp [h]⟩
attribute [local irreducible] World.cell?
end Go.Proofs.Ytfmgjhaofbdlpaa
namespace Go.Proofs.Ytfmgjhaofbdlpaa
open Go.RowKit
theorem run_copy_rowN {P : Program} (w : World) (dT sT ty elem : TypeId) (g o dLen dCap : Nat) (a : Addr) (sLen sCap : Nat) (cur : Array Value) (t : TypeId) (cs : List Value) (n size : Nat)
    (hu : P.underlying dT = some (.slice elem)) (hs : (P.info? elem).map (·.size) = some size)
    (hg : w.heap[g]? = some (.cells cur t (0, 0))) (hn : n = Nat.min sLen dLen) (hc : cs.length = n * size)
    (hsrc : ∀ j v, cs[j]? = some v → w.cell? (a.add j) = some v) (hfit : o + cs.length ≤ cur.size) (h1 : ∀ v ∈ cs, v.oneCell' = true) :
    (Builtin.copy_ #[dT, sT] ty #[.slice (some ⟨g, o, none⟩) dLen dCap, .slice (some a) sLen sCap]).run P w =
      .ok (goInt n) (w.setRow g (cur.toList.take o ++ cs ++ cur.toList.drop (o + cs.length)).toArray) := by
  have hl := run_loadCells_list (P := P) w a cs hsrc
  have hst := run_storeCells_at P g o t cs 0 cur w hg (by simpa using hfit) h1
  cases hq : P.info? elem with
  | none => simp [hq] at hs
  | some i =>
    have hi : i.size = size := by simpa [hq] using hs
    simp [Builtin.copy_, run_underlying hu, Builtin.lenOf, Builtin.firstCells, sizeOf, typeInfo, hq, hi, ← hn, ← hc, hl, hst]
/-- A copy as a step of the walk. -/
theorem wpList_copy_N {P : Program} {w : World} {ops : Array Oper} {rest : List Oper} {o : Oper} {a : Act} {Q : Exit → Act → World → Prop} (hgd : o.guard = none) (d s : Operand) (dT sT : TypeId)
    (ho : o.op = .call { callee := .builtin .copy, args := #[d, s], argTypes := #[dT, sT] }) (elem : TypeId) (size : Nat) (hu : P.underlying dT = some (.slice elem)) (hsz : (P.info? elem).map (·.size) = some size)
    (g off dLen dCap : Nat) (ad : Addr) (sLen sCap : Nat) (hd : a.eval d = .slice (some ⟨g, off, none⟩) dLen dCap) (hs : a.eval s = .slice (some ad) sLen sCap)
    (cur : Array Value) (t : TypeId) (hg : w.heap[g]? = some (.cells cur t (0, 0))) (cs : List Value) (n : Nat) (hn : n = Nat.min sLen dLen) (hc : cs.length = n * size)
    (hsrc : ∀ j v, cs[j]? = some v → w.cell? (ad.add j) = some v) (hfit : off + cs.length ≤ cur.size) (h1 : ∀ v ∈ cs, v.oneCell' = true)
    (h : ∀ w', w'.heap[g]? = some (.cells (splice cur.toList off cs).toArray t (0, 0)) → w.grownBy w' (some g) → wpList P ops Q rest (a.put o.dst (goInt n)) w') :
    wpList P ops Q (o :: rest) a w := by
  refine wpList_plain hgd fun K hK => ?_
  have hrun := run_copy_rowN (P := P) w dT sT o.type elem g off dLen dCap ad sLen sCap cur t cs n size hu hsz hg hn hc hsrc hfit h1
  unfold Oper.wp
  simp [execOp, ho, resolve, invoke, builtin, hd, hs, hrun, Result.andThen]
  refine hK _ _ (h _ ?_ ?_)
  · simpa [splice] using setRow_heap w g cur _ t _ hg
  · exact ⟨rfl, rfl, rfl, by simp [World.setRow], fun k _ hk => setRow_other w g k _ (by intro e; exact hk (by rw [e]))⟩
/-- A copy as a step of a region that draws its order. -/
theorem step_copy_N {P : Program} {ops : Array Oper} {o : Oper} {a : Act} {w : World} {K : Act → World → Prop} {Q : Exit → Act → World → Prop} {E : Prop} (hgd : o.guard = none) (d s : Operand) (dT sT : TypeId)
    (ho : o.op = .call { callee := .builtin .copy, args := #[d, s], argTypes := #[dT, sT] }) (elem : TypeId) (size : Nat) (hu : P.underlying dT = some (.slice elem)) (hsz : (P.info? elem).map (·.size) = some size)
    (g off dLen dCap : Nat) (ad : Addr) (sLen sCap : Nat) (hd : a.eval d = .slice (some ⟨g, off, none⟩) dLen dCap) (hs : a.eval s = .slice (some ad) sLen sCap)
    (cur : Array Value) (t : TypeId) (hg : w.heap[g]? = some (.cells cur t (0, 0))) (cs : List Value) (n : Nat) (hn : n = Nat.min sLen dLen) (hc : cs.length = n * size)
    (hsrc : ∀ j v, cs[j]? = some v → w.cell? (ad.add j) = some v) (hfit : off + cs.length ≤ cur.size) (h1 : ∀ v ∈ cs, v.oneCell' = true)
    (h : ∀ w', w'.heap[g]? = some (.cells (splice cur.toList off cs).toArray t (0, 0)) → w.grownBy w' (some g) → K (a.put o.dst (goInt n)) w') :
    if Region.wanted o (yielded ops a.tmps) = true then Oper.wp P o a w K Q else E := by
  have hw : Region.wanted o (yielded ops a.tmps) = true := by simp [Region.wanted, hgd]
  rw [if_pos hw]
  have hrun := run_copy_rowN (P := P) w dT sT o.type elem g off dLen dCap ad sLen sCap cur t cs n size hu hsz hg hn hc hsrc hfit h1
  unfold Oper.wp
  simp [execOp, ho, resolve, invoke, builtin, hd, hs, hrun, Result.andThen]
  refine h _ ?_ ?_
  · simpa [splice] using setRow_heap w g cur _ t _ hg
  · exact ⟨rfl, rfl, rfl, by simp [World.setRow], fun k _ hk => setRow_other w g k _ (by intro e; exact hk (by rw [e]))⟩
theorem sizeDw : (Try.prog.info? 63).map (·.size) = some 5 := by kernel_rfl
end Go.Proofs.Ytfmgjhaofbdlpaa
