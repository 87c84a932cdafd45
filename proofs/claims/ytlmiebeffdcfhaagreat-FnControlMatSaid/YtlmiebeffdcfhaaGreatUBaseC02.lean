/- UBaseC02: several of our texts in one: UMtO UMtN UMtS UBaseB09 UEnt UMtKp UDmO. -/
import Derived.Test.YtlmiebeffdcfhaaGreatUBaseB18
import Derived.Test.YtlmiebeffdcfhaaGreatUBaseB08
import Derived.Deep.Slices
import Derived.Test.YtlmiebeffdcfhaaGreatUBaseB12
import Derived.Test.YtlmiebeffdcfhaaGreatUMtR
import Derived.Test.YtlmiebeffdcfhaaGreatUBaseC06
import Derived.Test.YtlmiebeffdcfhaaGreatUDsKc
import Derived.Test.YtlmiebeffdcfhaaGreatUBaseC11
import Derived.Test.YtlmiebeffdcfhaaGreatUBaseB22
namespace Go.Proofs.YtlmiebeffdcfhaaGreat
open Go.ChangeShapes Go.WideShapes Go.ChangeAt Go.RowKit Go.Lib Go.Joins
end Go.Proofs.YtlmiebeffdcfhaaGreat
namespace Go.Proofs.YtlmiebeffdcfhaaGreat
open Go.RowKit
attribute [local irreducible] World.cell?
end Go.Proofs.YtlmiebeffdcfhaaGreat
namespace Go.Proofs.YtlmiebeffdcfhaaGreat
open Go.RowKit
theorem Mid.low {B C : Nat} {w w' : World} (h : Mid B C w w') : w.heap.size ≤ w'.heap.size := h.1.size
end Go.Proofs.YtlmiebeffdcfhaaGreat
namespace Go.Proofs.YtlmiebeffdcfhaaGreat
open Go.RowKit
theorem gtB_parts {g : Gt} {n : Int} (h : gtB g n = true) : (1 ≤ n ∧ n ≤ 4) ∧ (1 ≤ g.k ∧ g.k ≤ 12) ∧ (0 ≤ g.a ∧ g.a < n) ∧ (0 ≤ g.b ∧ g.b < n) ∧ 0 ≤ g.c ∧ g.c < n := by
  unfold gtB at h
  simp only [Bool.and_eq_true, decide_eq_true_eq] at h
  obtain ⟨hall, hpos, hn⟩ := h
  have hw : IntKind.i64.wrap (n - 1) = n - 1 := by rw [IntKind.wrap_i64]; omega
  rw [hw, List.all_eq_true] at hall
  have hk : 1 ≤ g.k ∧ g.k ≤ 12 := by
    unfold ar at hpos
    repeat' split at hpos
    all_goals omega
  have key : ∀ j, j < 3 → 0 ≤ [g.a, g.b, g.c].getD j 0 ∧ [g.a, g.b, g.c].getD j 0 < n := fun j hj => by
    have h := hall j (List.mem_range.2 hj)
    unfold gtOk at h
    split at h
    · have := of_decide_eq_true h; omega
    · rw [Bool.and_eq_true] at h
      have := of_decide_eq_true h.1
      omega
  exact ⟨hn, hk, key 0 (by omega), key 1 (by omega), key 2 (by omega)⟩
end Go.Proofs.YtlmiebeffdcfhaaGreat
namespace Go.Proofs.YtlmiebeffdcfhaaGreat
end Go.Proofs.YtlmiebeffdcfhaaGreat
namespace Go.Proofs.YtlmiebeffdcfhaaGreat
/-- Two gates share a qubit. -/
def mtG (g h : Gt) : Bool := (gqs g).any fun q => decide (q ∈ gqs h)
def anyG (L : List Gt) (h : Gt) : Bool := L.any fun g => mtG g h
/-- From n downwards: the first layer behind the last that meets h. -/
def atL (M : List (List Gt)) (h : Gt) : Nat → Nat
  | 0 => 0
  | n + 1 => if anyG (M.getD n []) h then n + 1 else atL M h n
def layAt (M : List (List Gt)) (h : Gt) : Nat := atL M h M.length
def layG (M : List (List Gt)) (h : Gt) : List (List Gt) :=
  if layAt M h = M.length then M ++ [[h]] else M.set (layAt M h) (M.getD (layAt M h) [] ++ [h])
def layL : List (List Gt) → List Gt → List (List Gt)
  | M, [] => M
  | M, g :: L => layL (layG M g) L
theorem atL_le (M : List (List Gt)) (h : Gt) : ∀ n, atL M h n ≤ n
  | 0 => Nat.le_refl 0
  | n + 1 => by
    rw [atL]
    split
    · exact Nat.le_refl _
    · exact Nat.le_succ_of_le (atL_le M h n)
theorem layAt_le (M : List (List Gt)) (h : Gt) : layAt M h ≤ M.length := atL_le M h _
theorem layG_len (M : List (List Gt)) (h : Gt) : (layG M h).length = max M.length (layAt M h + 1) := by
  have := layAt_le M h
  unfold layG
  split
  · rename_i e
    rw [List.length_append, e]
    simp
  · rw [List.length_set]; omega
/-- Gates that share no qubit exchanged, again and again. -/
inductive Sw : List Gt → List Gt → Prop
  | refl (L : List Gt) : Sw L L
  | swap (A B : List Gt) (g h : Gt) (L : List Gt) : mtG g h = false → Sw (A ++ h :: g :: B) L → Sw (A ++ g :: h :: B) L
theorem Sw.trans {L M N : List Gt} (h : Sw L M) (k : Sw M N) : Sw L N := by
  induction h with
  | refl _ => exact k
  | swap A B g h L hm _ ih => exact .swap A B g h N hm (ih k)
theorem Sw.behind {L M : List Gt} (h : Sw L M) (B : List Gt) : Sw (L ++ B) (M ++ B) := by
  induction h with
  | refl _ => exact .refl _
  | swap A C g h L hm _ ih =>
    have e : A ++ g :: h :: C ++ B = A ++ g :: h :: (C ++ B) := by simp
    rw [e]
    refine .swap A (C ++ B) g h _ hm ?_
    have e2 : A ++ h :: g :: C ++ B = A ++ h :: g :: (C ++ B) := by simp
    rw [← e2]
    exact ih
/-- A gate's place once another has been laid. -/
theorem atL_set {M : List (List Gt)} {g h : Gt} {at' : Nat} : ∀ {n : Nat}, at' < M.length → atL (M.set at' (M.getD at' [] ++ [g])) h n = if mtG g h = true ∧ at' < n then max (atL M h n) (at' + 1) else atL M h n
  | 0, _ => by simp [atL]
  | n + 1, hl => by
    have ih := atL_set (M := M) (g := g) (h := h) (n := n) hl
    have hle := atL_le M h n
    rw [atL, atL]
    by_cases e : at' = n
    · subst e
      have hg : (M.set at' (M.getD at' [] ++ [g])).getD at' [] = M.getD at' [] ++ [g] := by
        rw [List.getD_eq_getElem?_getD, List.getElem?_set_self hl]; rfl
      have ha : anyG (M.getD at' [] ++ [g]) h = (anyG (M.getD at' []) h || mtG g h) := by unfold anyG; rw [List.any_append]; simp
      rw [hg, ha, ih]
      cases h1 : anyG (M.getD at' []) h <;> cases h2 : mtG g h <;> simp <;> omega
    · have hg : (M.set at' (M.getD at' [] ++ [g])).getD n [] = M.getD n [] := by
        rw [List.getD_eq_getElem?_getD, List.getElem?_set_ne e, ← List.getD_eq_getElem?_getD]
      rw [hg, ih]
      by_cases hm : mtG g h = true
      · by_cases hlt : at' < n
        · cases h1 : anyG (M.getD n []) h <;> simp [hm, hlt, Nat.lt_succ_of_lt hlt] <;> omega
        · have h3 : ¬ at' < n + 1 := by omega
          cases h1 : anyG (M.getD n []) h <;> simp [hlt, h3]
      · cases h1 : anyG (M.getD n []) h <;> simp [hm]
theorem atL_snoc {M : List (List Gt)} {g h : Gt} : ∀ {n : Nat}, n ≤ M.length → atL (M ++ [[g]]) h n = atL M h n
  | 0, _ => rfl
  | n + 1, hl => by
    rw [atL, atL, atL_snoc (M := M) (by omega), List.getD_eq_getElem?_getD, List.getElem?_append_left (by omega), ← List.getD_eq_getElem?_getD]
theorem layAt_lay (M : List (List Gt)) (g h : Gt) : layAt (layG M g) h = if mtG g h = true then max (layAt M h) (layAt M g + 1) else layAt M h := by
  have hle := layAt_le M g
  have hlh := layAt_le M h
  by_cases e : layAt M g = M.length
  · have hG : layG M g = M ++ [[g]] := if_pos e
    have ha : layAt (layG M g) h = if anyG ((M ++ [[g]]).getD M.length []) h then M.length + 1 else atL (M ++ [[g]]) h M.length := by
      rw [hG]; unfold layAt; rw [List.length_append]; rfl
    have hg : (M ++ [[g]]).getD M.length [] = [g] := by rw [List.getD_eq_getElem?_getD]; simp
    have hany : anyG [g] h = mtG g h := by simp [anyG]
    rw [ha, hg, hany, atL_snoc (Nat.le_refl _)]
    show (if mtG g h = true then M.length + 1 else layAt M h) = _
    split
    · omega
    · rfl
  · have hlt : layAt M g < M.length := by omega
    have hG : layG M g = M.set (layAt M g) (M.getD (layAt M g) [] ++ [g]) := if_neg e
    rw [hG]
    show atL _ h (M.set _ _).length = _
    rw [List.length_set, atL_set hlt]
    show (if mtG g h = true ∧ layAt M g < M.length then max (layAt M h) (layAt M g + 1) else layAt M h) = _
    by_cases hm : mtG g h = true
    · rw [if_pos ⟨hm, hlt⟩, if_pos hm]
    · rw [if_neg fun h => hm h.1, if_neg hm]
/-- Layers laid upon d layers, against the same layers laid upon none. -/
def Low (d : Nat) (P Q : List (List Gt)) : Prop := (∀ h, layAt P h ≤ layAt Q h ∧ layAt Q h ≤ d + layAt P h) ∧ P.length ≤ Q.length ∧ Q.length ≤ d + P.length ∧ d ≤ Q.length
theorem Low.lay {d : Nat} {P Q : List (List Gt)} (h : Low d P Q) (g : Gt) : Low d (layG P g) (layG Q g) := by
  obtain ⟨h1, h2, h3, h4⟩ := h
  have hg := h1 g
  refine ⟨fun x => ?_, ?_, ?_, ?_⟩
  · have hx := h1 x
    rw [layAt_lay, layAt_lay]
    split
    · omega
    · exact hx
  · rw [layG_len, layG_len]; omega
  · rw [layG_len, layG_len]; omega
  · rw [layG_len]; omega
theorem Low.all {d : Nat} : ∀ (L : List Gt) {P Q : List (List Gt)}, Low d P Q → Low d (layL P L) (layL Q L)
  | [], _, _, h => h
  | g :: L, _, _, h => by rw [layL, layL]; exact Low.all L (h.lay g)
end Go.Proofs.YtlmiebeffdcfhaaGreat
namespace Go.Proofs.YtlmiebeffdcfhaaGreat
open Go.RowKit
/-- One entry of row j is written. -/
theorem MRow.entry {w : World} {B C g : Nat} {M : List (List Dw)} (h : MRow w B C g M) {j t : Nat} {r : List Dw} (hr : M[j]? = some r) (ht : t < r.length) :
    ∃ b pc, w.cell? ⟨g, j, none⟩ = some (.slice (some ⟨b, 0, none⟩) r.length pc) ∧ B ≤ b ∧ b < w.heap.size ∧ DRow w b r ∧ r.length ≤ pc ∧ ∀ z : Dw,
      MRow (((((w.setCell ⟨b, t * 5, none⟩ (.int .i64 z.n.a)).setCell ⟨b, t * 5 + 1, none⟩ (.int .i64 z.n.b)).setCell ⟨b, t * 5 + 2, none⟩ (.int .i64 z.n.c)).setCell ⟨b, t * 5 + 3, none⟩ (.int .i64 z.n.d)).setCell ⟨b, t * 5 + 4, none⟩ (.int .i64 z.e)) B C g (M.set j (r.set t z)) := by
  obtain ⟨a, cap, b, c, hc, h1, h2, h3, hd, hk⟩ := h.turn hr
  obtain ⟨a', cap', e, hcap, hrow⟩ := hd
  obtain ⟨b', e', hb, hc', hR⟩ := hrow (by omega)
  injection e with e1 e2 e3
  subst e1 e3
  subst e'
  refine ⟨b', cap, hc, by omega, hR.lt, hR, hcap, fun z => ?_⟩
  refine hk _ (r.set t z) (by simp) ⟨_, _, by rw [List.length_set], by rw [List.length_set]; exact hcap, fun _ => ⟨b', rfl, hb, hc', hR.put t ht z⟩⟩ ?_
  exact (((((Mid.refl b c w).set hb hc' _).set hb hc' _).set hb hc' _).set hb hc' _).set hb hc' _
end Go.Proofs.YtlmiebeffdcfhaaGreat
namespace Go.Proofs.YtlmiebeffdcfhaaGreat
theorem root_zero : Zw.zero.root = Zw.zero := by decide
theorem rootN_zero : ∀ k : Nat, rootN k Zw.zero = Zw.zero
  | 0 => rfl
  | k + 1 => by rw [rootN, root_zero]; exact rootN_zero k
theorem upB_zero : ∀ k : Nat, upB k Zw.zero = true
  | 0 => rfl
  | k + 1 => by rw [upB, root_zero, upB_zero k]; decide
theorem red_zero : ∀ k : Nat, red k Zw.zero = (Zw.zero, 0)
  | 0 => rfl
  | k + 1 => by rw [red, if_pos (by decide), show divV Zw.zero = Zw.zero by decide]; exact red_zero k
theorem mul_zeroZ (x : Zw) : x.mul .zero = .zero := by simp [Zw.mul, Zw.zero]
theorem add_zeroZ (x : Zw) : x.add .zero = x := by simp [Zw.add, Zw.zero]
theorem new_zero {k : Int} (h0 : 0 ≤ k) (h1 : k ≤ 120) : newB .zero k = true ∧ newV .zero k = .zero := by
  have hb : newB .zero k = true := newB_iff.2 ⟨by decide, h0, h1, by rw [red_zero]; exact Nat.zero_le _⟩
  exact ⟨hb, by rw [newV_of hb, red_zero]; rfl⟩
theorem dmul_zero {x : Dw} (h : x.ok) : dMulB x .zero = true ∧ dMulV x .zero = .zero := by
  have hn := new_zero (k := x.e + Dw.zero.e) (by show 0 ≤ x.e + 0; have := h.2; omega) (by show x.e + 0 ≤ 120; have := h.2; omega)
  have hm : x.n.mul Dw.zero.n = .zero := mul_zeroZ x.n
  have hb : dMulB x .zero = true := dMulB_iff.2 ⟨h, zero_ok, mulB_iff.2 ⟨h.1, by decide, by rw [hm]; decide⟩, by rw [hm]; exact hn.1⟩
  exact ⟨hb, by rw [dMulV_of hb, hm]; exact hn.2⟩
theorem dzero_mul {x : Dw} (h : x.ok) : dMulB .zero x = true ∧ dMulV .zero x = .zero := by
  rw [dMulB_comm x .zero, dMulV_comm x .zero]
  exact dmul_zero h
theorem dadd_zeroK {s : Dw} (h : s.ok) : dAddB s .zero = true ∧ dAddV s .zero = s := by
  have ht : topE s .zero = s.e := by
    have := h.2
    unfold topE
    show (if (0 : Int) < s.e then s.e else 0) = s.e
    split <;> omega
  have ha : numA s .zero = s.n := by unfold numA; rw [ht, Int.sub_self]; rfl
  have hb : numB s .zero = .zero := by unfold numB; exact rootN_zero _
  have hs := newV_self h
  have e : dAddB s .zero = true := dAddB_iff.2 ⟨h, zero_ok, by rw [ht, Int.sub_self]; rfl, upB_zero _, by rw [ha, hb]; exact addB_iff.2 ⟨h.1, by decide, by rw [add_zeroZ]; exact h.1⟩, by rw [ha, hb, add_zeroZ, ht]; exact hs.1⟩
  exact ⟨e, by rw [dAddV_of e, ha, hb, add_zeroZ, ht]; exact hs.2⟩
theorem mrow_sum : ∀ (l : List (Dw × Dw)) (s : Dw), s.ok → (∀ p ∈ l, p.1.ok ∧ p.2.ok) → mrow s l = if l.all (fun p => dMulB p.1 p.2) then sumD s (l.map fun p => dMulV p.1 p.2) else none
  | [], s, _, _ => rfl
  | p :: l, s, hs, hl => by
    have hp := hl p (List.mem_cons_self ..)
    have hl' := fun q hq => hl q (List.mem_cons_of_mem _ hq)
    rw [mrow]
    simp only [List.all_cons, List.map_cons, sumD]
    by_cases hz : p.1 = .zero ∨ p.2 = .zero
    · have hm : dMulB p.1 p.2 = true ∧ dMulV p.1 p.2 = .zero := by
        rcases hz with h | h
        · rw [h]; exact dzero_mul hp.2
        · rw [h]; exact dmul_zero hp.1
      rw [if_pos hz, hm.1, hm.2, (dadd_zeroK hs).1, (dadd_zeroK hs).2, mrow_sum l s hs hl']
      simp only [Bool.true_and, if_true]
    · rw [if_neg hz]
      cases hb : dMulB p.1 p.2
      · simp
      · cases ha : dAddB s (dMulV p.1 p.2)
        · simp
        · rw [mrow_sum l _ (dAddV_ok ha) hl']
          simp only [Bool.true_and, Bool.and_self, if_true]
theorem row_sum {a b : List Dw} (ha : ∀ x ∈ a, x.ok) (hb : ∀ x ∈ b, x.ok) : rowO a b = if cmbB dMulB a b then sumD .zero (cmbL dMulV dMulB a b) else none := by
  have h := mrow_sum (a.zip b) .zero zero_ok fun p hp => ⟨ha _ (List.of_mem_zip hp).1, hb _ (List.of_mem_zip hp).2⟩
  unfold rowO
  rw [h]
  by_cases hc : cmbB dMulB a b = true
  · rw [if_pos (show (a.zip b).all (fun p => dMulB p.1 p.2) = true from hc), if_pos hc, cmbL, if_pos hc]
  · rw [if_neg (show ¬ (a.zip b).all (fun p => dMulB p.1 p.2) = true from hc), if_neg hc]
theorem eb_cmbM (a b : List Dw) : Eb (cmbL dMulV dMulB a b) := by
  intro y hy
  unfold cmbL at hy
  split at hy
  · obtain ⟨p, -, rfl⟩ := List.mem_map.1 hy
    exact mul_eb _ _
  · cases hy
theorem len_cmbM (V : Dw → Dw → Dw) (T : Dw → Dw → Bool) (a b : List Dw) : (cmbL V T a b).length ≤ b.length := by
  unfold cmbL
  split
  · rw [List.length_map, List.length_zip]; omega
  · exact Nat.zero_le _
end Go.Proofs.YtlmiebeffdcfhaaGreat
namespace Go.Proofs.YtlmiebeffdcfhaaGreat
open Go.RowKit
theorem DSM.own {w w' : World} {B C D : Nat} {v : Value} {M : List (List Dw)} (h : DSM w D C v M) (ho : Own B w w') (hB : B < D) : DSM w' D C v M :=
  h.block fun k hk _ hl => ho.block k hl (by intro e; injection e with e; omega)
end Go.Proofs.YtlmiebeffdcfhaaGreat
