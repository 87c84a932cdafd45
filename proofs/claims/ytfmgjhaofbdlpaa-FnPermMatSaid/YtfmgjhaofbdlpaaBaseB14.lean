/- BaseB14: several of our texts in one: PmKp PmD PmX. -/
import Derived.Test.YtfmgjhaofbdlpaaBaseB11
import Derived.Test.YtfmgjhaofbdlpaaPmS
import Derived.Laws.OwnMore
import Derived.Test.YtfmgjhaofbdlpaaBaseB07
namespace Go.Proofs.Ytfmgjhaofbdlpaa
/-- The list in ascending order. -/
def sortL (l : List Int) : List Int := l.mergeSort fun x y => decide (x ≤ y)
theorem sortL_len (l : List Int) : (sortL l).length = l.length := List.length_mergeSort l
theorem sortL_perm (l : List Int) : (sortL l).Perm l := List.mergeSort_perm l _
theorem sortL_up (l : List Int) : (sortL l).Pairwise (fun x y => x ≤ y) := by
  have h := List.pairwise_mergeSort (le := fun (x y : Int) => decide (x ≤ y)) (fun a b c h k => decide_eq_true (Int.le_trans (of_decide_eq_true h) (of_decide_eq_true k))) (fun a b => by
    rcases Int.le_total a b with h | h
    · rw [decide_eq_true h]; rfl
    · rw [decide_eq_true h, Bool.or_true]) l
  exact h.imp fun h => of_decide_eq_true h
theorem sortL_of_perm {l m : List Int} (h : l.Perm m) : sortL l = sortL m :=
  List.Perm.eq_of_pairwise (fun _ _ _ _ h k => Int.le_antisymm h k) (sortL_up l) (sortL_up m) ((sortL_perm l).trans (h.trans (sortL_perm m).symm))
theorem upI_up (n : Nat) : (upI n).Pairwise (fun x y => x ≤ y) := by
  unfold upI
  rw [List.pairwise_map]
  exact List.pairwise_le_range.imp fun h => Int.ofNat_le.2 h
theorem sortL_upI (n : Nat) : sortL (upI n) = upI n :=
  List.Perm.eq_of_pairwise (fun _ _ _ _ h k => Int.le_antisymm h k) (sortL_up _) (upI_up n) (sortL_perm _)
theorem perm_all : allP.all (fun p => p.isPerm (upI p.length)) = true := by decide +kernel
theorem small_perm : ∀ n, n ≤ 4 → ∀ p ∈ (List.range n).foldr (fun _ (acc : List (List Int)) => acc.flatMap fun t => [0, 1, 2, 3].map fun (x : Int) => x :: t) [[]], p.length ≠ 0 → p.isPerm (upI p.length) = true → permB p = true := by
  intro n hn
  rcases (show n = 0 ∨ n = 1 ∨ n = 2 ∨ n = 3 ∨ n = 4 by omega) with rfl | rfl | rfl | rfl | rfl <;> decide +kernel
/-- IsPermutation by the sorted list. -/
theorem permB_sort {p : List Int} (h1 : 1 ≤ p.length) (h4 : p.length ≤ 4) : permB p = decide (sortL p = upI p.length) := by
  rw [Bool.eq_iff_iff, decide_eq_true_eq]
  constructor
  · intro h
    have h1 := List.isPerm_iff.1 (List.all_eq_true.1 perm_all p (perm_mem h))
    rw [sortL_of_perm h1, sortL_upI]
  · intro h
    have hp : p.Perm (upI p.length) := by
      have := (sortL_perm p).symm
      rwa [h] at this
    refine small_perm p.length h4 p (small_all p.length p rfl fun x hx => ?_) (by omega) (List.isPerm_iff.2 hp)
    have hm := hp.mem_iff.1 hx
    obtain ⟨i, hi, rfl⟩ := List.mem_map.1 hm
    have := List.mem_range.1 hi
    omega
theorem permB_size {p : List Int} (h : ¬ (1 ≤ p.length ∧ p.length ≤ 4)) : permB p = false := by
  cases hp : permB p with
  | false => rfl
  | true => exact absurd (permB_iff.1 hp).2 h
/-- The first j integers, then zeros. -/
def upZ (n j : Nat) : List Int := upI j ++ List.replicate (n - j) 0
theorem upI_snoc (j : Nat) : upI (j + 1) = upI j ++ [(j : Int)] := by
  unfold upI
  rw [List.range_succ, List.map_append]
  rfl
theorem upI_ln (n : Nat) : (upI n).length = n := by simp [upI]
theorem upZ_len {n j : Nat} (h : j ≤ n) : (upZ n j).length = n := by
  rw [upZ, List.length_append, upI_ln, List.length_replicate]; omega
theorem upZ_zero (n : Nat) : upZ n 0 = List.replicate n 0 := rfl
theorem upZ_all (n : Nat) : upZ n n = upI n := by simp [upZ]
theorem upZ_step {n j : Nat} (h : j < n) : (upZ n j).set j (j : Int) = upZ n (j + 1) := by
  rw [upZ, upZ, List.set_append_right _ _ (by rw [upI_ln]; exact Nat.le_refl _), upI_ln, Nat.sub_self, show n - j = (n - (j + 1)) + 1 by omega, List.replicate_succ, List.set_cons_zero, upI_snoc, List.append_assoc]
  rfl
/-- ComposePermutations, after j steps. -/
def cmpZ (p q : List Int) (j : Nat) : List Int := (p.map (atI q)).take j ++ List.replicate (p.length - j) 0
theorem cmpZ_len {p q : List Int} {j : Nat} (h : j ≤ p.length) : (cmpZ p q j).length = p.length := by
  rw [cmpZ, List.length_append, List.length_take, List.length_map, List.length_replicate]; omega
theorem cmpZ_zero (p q : List Int) : cmpZ p q 0 = List.replicate p.length 0 := by simp [cmpZ]
theorem cmpZ_all (p q : List Int) : cmpZ p q p.length = p.map (atI q) := by
  rw [cmpZ, List.take_of_length_le (by rw [List.length_map]; exact Nat.le_refl _), Nat.sub_self]
  simp
theorem cmpZ_step {p q : List Int} {j : Nat} {x : Int} (h : p[j]? = some x) : (cmpZ p q j).set j (atI q x) = cmpZ p q (j + 1) := by
  have hj : j < p.length := by
    rcases Nat.lt_or_ge j p.length with h' | h'
    · exact h'
    · rw [List.getElem?_eq_none h'] at h; cases h
  have hl : ((p.map (atI q)).take j).length = j := by rw [List.length_take, List.length_map]; omega
  rw [cmpZ, cmpZ, List.set_append_right _ _ (by rw [hl]; exact Nat.le_refl _), hl, Nat.sub_self, show p.length - j = (p.length - (j + 1)) + 1 by omega, List.replicate_succ, List.set_cons_zero, List.take_add_one, List.getElem?_map, h, List.append_assoc]
  rfl
/-- PermutationMatrix, after j steps. -/
def pmZ (p : List Int) : Nat → List (List Dw)
  | 0 => List.replicate (2 ^ p.length) []
  | j + 1 => (pmZ p j).set (pix p (j : Int)).toNat (basisL (p.length : Int) (j : Int))
theorem pmZ_len (p : List Int) : ∀ j, (pmZ p j).length = 2 ^ p.length
  | 0 => by simp [pmZ]
  | j + 1 => by rw [pmZ, List.length_set, pmZ_len p j]
theorem pmZ_list : allP.all (fun p => decide (pmZ p (2 ^ p.length) = pmM p)) = true := by decide +kernel
/-- Every row is still empty that no basis state has gone to. -/
theorem pmZ_free : allP.all (fun p => (List.range (2 ^ p.length)).all fun j => decide ((pmZ p j)[(pix p (j : Int)).toNat]? = some [])) = true := by decide +kernel
theorem pmZ_all {p : List Int} (h : permB p = true) : pmZ p (2 ^ p.length) = pmM p := of_decide_eq_true (List.all_eq_true.1 pmZ_list p (perm_mem h))
theorem pmZ_at {p : List Int} (h : permB p = true) {j : Nat} (hj : j < 2 ^ p.length) : (pmZ p j)[(pix p (j : Int)).toNat]? = some [] :=
  of_decide_eq_true (List.all_eq_true.1 (List.all_eq_true.1 pmZ_free p (perm_mem h)) j (List.mem_range.2 hj))
end Go.Proofs.Ytfmgjhaofbdlpaa
namespace Go.Proofs.Ytfmgjhaofbdlpaa
open Go.RowKit
theorem own_keep {w w' : World} {base B n size : Nat} {e : TypeId} {v : Value} {xs : List Value} (h : w.ownsRow base e size v n xs) (ho : Own B w w') (hB : B < base) : w'.ownsRow base e size v n xs := by
  refine ⟨h.1, ?_⟩
  rcases h.2 with h1 | ⟨g, cap, cur, hv, hb, hg, r⟩
  · exact .inl h1
  · exact .inr ⟨g, cap, cur, hv, hb, by rw [ho.block g (lt_of_block hg) (by intro e; injection e with e; omega)]; exact hg, r⟩
theorem own_row {w : World} {base n cap g : Nat} {l : List Int} (h : w.ownsRow base 3 1 (.slice (some ⟨g, 0, none⟩) n cap) n (intE.flat l)) (hl : l.length = n) : intE.Row w g l := by
  rcases h.2 with ⟨h1, _⟩ | ⟨g', cap', cur, hv, hb, hg, hn, hc, hs, ht⟩
  · cases h1
  · injection hv with e1 e2 e3
    injection e1 with e1
    injection e1 with e1
    subst e1
    exact ⟨cur, hg, by rw [hl]; exact ht⟩
theorem own_put {w : World} {base n cap g j : Nat} {l : List Int} (h : w.ownsRow base 3 1 (.slice (some ⟨g, 0, none⟩) n cap) n (intE.flat l)) (hj : j < l.length) (y : Int) : (w.setCell ⟨g, j, none⟩ (.int .i64 y)).ownsRow base 3 1 (.slice (some ⟨g, 0, none⟩) n cap) n (intE.flat (l.set j y)) := by
  have h1 := (h.stored j (.int .i64 y)).1
  have h2 := intE.flat_set1 (j := j) (x := l[j]) (y := y) (o := 0) (v := .int .i64 y) (List.getElem?_eq_getElem hj) (by simp [intE]) rfl
  rw [show j * intE.n + 0 = j from by simp [intE]] at h2
  rwa [h2] at h1
attribute [local irreducible] World.cell?
set_option maxRecDepth 100000 in
set_option maxHeartbeats 1600000 in
theorem sidO_yes (n : Nat) (w : World) (h1 : 1 ≤ n) (h4 : n ≤ 4) :
    Calls Try.prog 32 #[.int .i64 n] w fun e w' => ∃ g cap, e = .returned (.slice (some ⟨g, 0, none⟩) n cap) ∧ w.heap.size ≤ g ∧ w'.ownsRow w.heap.size 3 1 (.slice (some ⟨g, 0, none⟩) n cap) n (intE.flat (upL n)) ∧ Below w.heap.size w w' := by
  obtain ⟨i0, hi, hz0, hz1, hz2⟩ := info_parts infoInt
  have H1 := Lib.hid (fun w => lin_any n 1 4 true w (by simp; omega))
  go_enter Try.func32, Try.ntmps32
  go_wp2_with fail
  go_loopg [3, 4] n (fun k out i wr => ∃ j : Nat, k = n - j ∧ j ≤ n ∧ i = .int .i64 j ∧ Hid (wr.ownsRow w.heap.size 3 1 out j (intE.flat (upL j))) ∧ Hid (Below w.heap.size w wr))
  case atStart => exact ⟨0, rfl, Nat.zero_le _, rfl, Lib.hid (Enc.own_nil (E := intE) rfl), Lib.hid (by go_grown)⟩
  case round =>
    obtain ⟨j, rfl, hj, rfl, Hown, Hb⟩ := hrel
    have hs := Hb.out.size
    by_cases hlt : j < n
    · have hd : decide ((j : Int) < n) = true := decide_eq_true (by omega)
      have Hstep := Lib.hid (show intE.flat (upL j) ++ [.int .i64 (j : Int)] = intE.flat (upL (j + 1)) by rw [upL_snoc, intE.flat_app]; rfl)
      have Hnew := Lib.hid (Enc.new_row (E := intE) wr (j : Int) #[.int .i64 (j : Int)] rfl)
      go_wp2_with fail
      refine (H1.out _).mono ?_
      rintro e w2 ⟨rfl, rfl⟩
      go_wp2_with (first
        | (at_builtin; refine wpList_append_own _ rfl _ _ 24 rfl w.heap.size 3 i0 (.int .i64 0) 1 8 Try.underlying24 hi hz0 hz1 hz2 rfl (by decide) _ _ _ rfl (Hown.out.alloc _) ⟨wr.heap.size, 0, none⟩ 1 1 [.int .i64 (j : Int)] rfl rfl Hnew.out (one_int _) ?d3 ?d4 ?d5 ?_))
      case d3 => unfold maxLen; omega
      case d4 => omega
      case d5 => first | omega | (simp; omega)
      intro v' w4 hown' hgrow _
      have HB4 := Lib.hid ((Hb.out.alloc hs (.cells #[.int .i64 (j : Int)] 3)).grown hgrow (by simp; omega) (fun q hq => by have := Hown.out.lt q hq; omega))
      rw [Hstep.out] at hown'
      have Hown4 := Lib.hid hown'
      clear hown' hgrow
      go_wp2_with fail
      go_roundg (n - (j + 1))
      case measure => omega
      case rel => exact ⟨j + 1, rfl, by omega, by go_num, Hown4, HB4⟩
    · obtain rfl : j = n := by omega
      have hd : decide ((j : Int) < j) = false := by simp
      have hown := Hown.out
      rcases hown.2 with ⟨_, h0⟩ | ⟨g, cap, cur, hv, hg, _⟩
      · omega
      subst hv
      have Hout := Lib.hid hown
      clear hown
      go_wp2_with fail
      refine (H1.out _).mono ?_
      rintro e w2 ⟨rfl, rfl⟩
      go_wp2_with fail
      go_ret
      exact ⟨g, cap, rfl, hg, Hout.out, Hb.out⟩
set_option maxRecDepth 100000 in
set_option maxHeartbeats 3200000 in
theorem permO_any (B n : Nat) (w : World) (hcur : CurAt w B) (hB : B < w.heap.size) (h1 : 1 ≤ n) (h4 : n ≤ 4) :
    Calls Try.prog 43 #[.pointer (some ⟨B, 0, none⟩), .int .i64 n] w fun e w' => (∃ g cap l, e = .returned (.slice (some ⟨g, 0, none⟩) n cap) ∧ List.length l = n ∧ (∀ x ∈ l, 0 ≤ x ∧ x < (n : Int)) ∧ w.heap.size ≤ g ∧ w'.ownsRow w.heap.size 3 1 (.slice (some ⟨g, 0, none⟩) n cap) n (intE.flat l)) ∧ CurAt w' B ∧ Own B w w' := by
  go_enter Try.func43, Try.ntmps43
  go_wp2_with fail
  refine (sidO_yes n _ h1 h4).mono ?_
  rintro e w1 ⟨g, cap, rfl, hg, hown, hb1⟩
  have Hc1 := Lib.hid (hcur.below hb1 hB)
  have Ho1 := Lib.hid (show Own B w w1 from own_of_below hb1)
  have hs1 := hb1.size
  have Hown1 := Lib.hid hown
  clear hb1 hown hcur
  go_wp2_with fail
  go_loopg [6] (n - 1) (fun n' i wr => ∃ (k : Nat) (l : List Int), k = n' ∧ i = .int .i64 (k : Int) ∧ k < n ∧ l.length = n ∧ Hid (∀ x ∈ l, 0 ≤ x ∧ x < (n : Int)) ∧ Hid (wr.ownsRow w.heap.size 3 1 (.slice (some ⟨g, 0, none⟩) n cap) n (intE.flat l)) ∧ Hid (CurAt wr B) ∧ Hid (Own B w wr) ∧ g < wr.heap.size)
  case atStart => exact ⟨n - 1, upL n, rfl, by congr 1; omega, by omega, upL_len n, Lib.hid (fun x hx => upL_mem hx), Hown1, Hc1, Ho1, (own_row Hown1.out (upL_len n)).lt⟩
  case round =>
    obtain ⟨k, l, rfl, rfl, hk, hl, Hbd, Hr, Hc, Ho, hgl⟩ := hrel
    by_cases h0 : k = 0
    · subst h0
      go_wp2_with fail
      go_ret
      exact ⟨⟨g, cap, l, rfl, hl, Hbd.out, hg, Hr.out⟩, Hc.out, Ho.out⟩
    · obtain ⟨m, rfl⟩ : ∃ m, k = m + 1 := ⟨k - 1, by omega⟩
      have hgw : w.heap.size ≤ g := hg
      go_wp2_with fail
      refine (below_any B ((m : Int) + 1 + 1) _ Hc.out (by omega) (by omega)).mono ?_
      rintro e w2 ⟨⟨x, x0, x1, rfl⟩, hc2, ho2⟩
      obtain ⟨q, rfl⟩ : ∃ q : Nat, x = q := ⟨x.toNat, by omega⟩
      have hq : q < n := by omega
      have Ho1' := Lib.hid (own_keep Hr.out ho2 hB)
      have hr2 := own_row Ho1'.out hl
      have Ho2 := Lib.hid (own_trans Ho.out ho2)
      have hs2 := ho2.size
      obtain ⟨a, ha⟩ : ∃ a, l[m + 1]? = some a := ⟨l[m + 1], List.getElem?_eq_getElem (by omega)⟩
      obtain ⟨b, hb⟩ : ∃ b, l[q]? = some b := ⟨l[q], List.getElem?_eq_getElem (by omega)⟩
      have ca := IRow.cell hr2 ha
      have cb := IRow.cell hr2 hb
      have f1 := fun o => hr2.free o
      have Hr3 := Lib.hid (own_put (own_put Ho1'.out (j := m + 1) (by omega) b) (j := q) (by simp; omega) a)
      have Hc3 := Lib.hid (hc2.own (C := g) (own_set (own_set (own_refl g w2) (m + 1) (.int .i64 b)) q (.int .i64 a)) (by omega))
      have Ho3 := Lib.hid (own_dn (own_dn Ho2.out (m + 1) (.int .i64 b) hgw) q (.int .i64 a) hgw)
      have hba := Hbd.out a (List.mem_of_getElem? ha)
      have hbb := Hbd.out b (List.mem_of_getElem? hb)
      have Hbd3 := Lib.hid (show ∀ x ∈ (l.set (m + 1) b).set q a, 0 ≤ x ∧ x < (n : Int) from fun x hx => by
        rcases List.mem_or_eq_of_mem_set hx with h | rfl
        · rcases List.mem_or_eq_of_mem_set h with h | rfl
          · exact Hbd.out x h
          · exact hbb
        · exact hba)
      have Hab := Lib.hid (fun (e : q = m + 1) => show b = a by subst e; rw [ha] at hb; injection hb with hb; exact hb.symm)
      clear hr2 hc2 ho2 Hr Hc Ho ha hb hba hbb Hbd Ho1' Ho2
      by_cases hqm : q = m + 1
      · obtain rfl := Hab.out hqm
        subst hqm
        go_wp2_with fail
        go_roundg m
        case measure => omega
        case rel => exact ⟨m, _, rfl, by go_num, by omega, by simpa using hl, Hbd3, Hr3, Hc3, Ho3, by simp [World.setCell]; omega⟩
      · go_wp2_with fail
        go_roundg m
        case measure => omega
        case rel => exact ⟨m, _, rfl, by go_num, by omega, by simpa using hl, Hbd3, Hr3, Hc3, Ho3, by simp [World.setCell]; omega⟩
end Go.Proofs.Ytfmgjhaofbdlpaa
namespace Go.Proofs.Ytfmgjhaofbdlpaa
open Go.RowKit
theorem same_self (B C : Nat) (v u : Value) (a : List Int) (w : World) (hv : intE.Sl w B v a) (hu : intE.Sl w C u a) (hm : a.length ≤ 1048576) :
    Calls Try.prog 15 #[v, u] w fun e w' => e = .returned (.bool true) ∧ Below w.heap.size w w' := by
  have h := sameIs B C v u a a w hv hu hm hm
  rwa [decide_eq_true rfl] at h
theorem upI_len (n : Nat) : (upI n).length = n := by simp [upI]
theorem Ei_up (n : Nat) (h : n ≤ 4) : Ei (upI n) := fun x hx => by
  obtain ⟨i, hi, rfl⟩ := List.mem_map.1 hx
  have := List.mem_range.1 hi
  omega
theorem invS_ei (p : List Int) : ∀ j, j ≤ 1048576 → Ei (invS p j)
  | 0, _, x, hx => by
    rw [invS] at hx
    rw [List.eq_of_mem_replicate hx]
    omega
  | j + 1, hj, x, hx => by
    rw [invS] at hx
    rcases List.mem_or_eq_of_mem_set hx with h | rfl
    · exact invS_ei p j (by omega) x h
    · omega
theorem Ei_inv {p : List Int} (h : p.length ≤ 1048576) : Ei (invP p) := by
  unfold invP
  split
  · exact invS_ei p _ h
  · intro x hx; cases hx
theorem Ei_cmp {p q : List Int} (hq : Ei q) : Ei (cmpP p q) := by
  unfold cmpP
  split
  · intro x hx
    obtain ⟨y, -, rfl⟩ := List.mem_map.1 hx
    rw [atI, List.getD_eq_getElem?_getD]
    cases h : q[y.toNat]? with
    | none => show _ ≤ (0 : Int) ∧ (0 : Int) ≤ _; omega
    | some z => exact hq z (List.mem_of_getElem? h)
  · intro x hx; cases hx
theorem idP_nat {n : Nat} (h1 : 1 ≤ n) (h4 : n ≤ 4) : idP (n : Int) = upI n := by
  unfold idP
  rw [if_pos (by omega)]
  rfl
end Go.Proofs.Ytfmgjhaofbdlpaa
