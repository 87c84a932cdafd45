/- BaseB17: several of our texts in one: AdN AmM PmL PmS PmT PmD PmX PmB MtG PmKp PmKs PmKi. -/
import Derived.Test.YtmpafidkpangeaaBaseB16
import Derived.Test.YtmpafidkpangeaaBaseB22
import Derived.Test.YtmpafidkpangeaaBaseB06
import Derived.Test.YtmpafidkpangeaaBaseB13
import Derived.Test.YtmpafidkpangeaaGtB
import Derived.Test.YtmpafidkpangeaaBaseB11
import Derived.Test.YtmpafidkpangeaaBaseB07
import Derived.Laws.OwnMore
import Derived.Test.YtmpafidkpangeaaBaseB08
import Derived.Deep.Onto
import Derived.Test.YtmpafidkpangeaaBaseB10
import Derived.Test.YtmpafidkpangeaaPhS
import Derived.Test.YtmpafidkpangeaaBaseB21
namespace Go.Proofs.Ytmpafidkpangeaa
end Go.Proofs.Ytmpafidkpangeaa
namespace Go.Proofs.Ytmpafidkpangeaa
theorem up_zero : ∀ k : Nat, upB k .zero = true ∧ rootN k .zero = .zero
  | 0 => ⟨by first | rfl | decide, rfl⟩
  | k + 1 => by
    obtain ⟨h1, h2⟩ := up_zero k
    have hr : Zw.zero.root = .zero := by decide
    constructor
    · unfold upB; rw [hr, h1]; decide
    · show rootN k Zw.zero.root = _; rw [hr]; exact h2
theorem dadd_zero {x : Dw} (h : x.ok) : dAddB .zero x = true ∧ dAddV .zero x = x := by
  have hz : Dw.zero.ok := by decide
  have he := h.2.1
  have ht : topE .zero x = x.e := by
    unfold topE
    show (if x.e < 0 then (0 : Int) else x.e) = x.e
    rw [if_neg (by omega)]
  have hA : numA .zero x = .zero := by unfold numA; exact (up_zero _).2
  have hB : numB .zero x = x.n := by unfold numB; rw [ht, Int.sub_self]; rfl
  have hs : Zw.zero.add x.n = x.n := by
    obtain ⟨⟨a, b, c, d⟩, e⟩ := x
    simp [Zw.add, Zw.zero]
  have hn := newV_self h
  have hb : dAddB .zero x = true := dAddB_iff.2 ⟨hz, h, by show upB _ Zw.zero = true; exact (up_zero _).1, by rw [ht, Int.sub_self]; show upB 0 x.n = true; first | rfl | (unfold upB; exact decide_eq_true h.1) | simp [upB, h.1], by rw [hA, hB]; exact addB_iff.2 ⟨by decide, h.1, by rw [hs]; exact h.1⟩, by rw [hA, hB, hs, ht]; exact hn.1⟩
  exact ⟨hb, by rw [dAddV_of hb, hA, hB, hs, ht]; exact hn.2⟩
theorem qc_pow {n : Nat} (h : 0 < qc n) : 1 ≤ qc n ∧ qc n ≤ 4 ∧ n = 2 ^ (qc n).toNat := by
  have hl := qc_len h
  have : n = 2 ∨ n = 4 ∨ n = 8 ∨ n = 16 := by
    unfold qc at h
    (repeat' split at h) <;> omega
  rcases this with rfl | rfl | rfl | rfl <;> decide
theorem basis_eq {n j : Nat} (h : 0 < qc n) (hj : j < n) : basisL (qc n) (j : Int) = (List.replicate n .zero).set j oneD := by
  obtain ⟨h1, h4, hp⟩ := qc_pow h
  unfold basisL
  rw [if_pos ⟨h1, h4, by omega, by have : ((2 ^ (qc n).toNat : Nat) : Int) = 2 ^ (qc n).toNat := by simp
                                   omega⟩, ← hp, Int.toNat_natCast]
theorem basis_st {n j : Nat} (h : 0 < qc n) (hj : j < n) : stB (basisL (qc n) (j : Int)) = true ∧ (basisL (qc n) (j : Int)).length = n := by
  rw [basis_eq h hj]
  refine ⟨stB_iff.2 ⟨fun x hx => ?_, by simpa using h⟩, by simp⟩
  rcases List.mem_or_eq_of_mem_set hx with hx | rfl
  · rw [(List.mem_replicate.1 hx).2]; decide
  · exact oneD_ok
end Go.Proofs.Ytmpafidkpangeaa
namespace Go.Proofs.Ytmpafidkpangeaa
end Go.Proofs.Ytmpafidkpangeaa
namespace Go.Proofs.Ytmpafidkpangeaa
open Go.RowKit
theorem permB_no {p : List Int} {j : Nat} (hj : j < p.length) (h : plB p j = false) : permB p = false := by
  cases hp : permB p with
  | false => rfl
  | true => rw [(permB_iff.1 hp).1 j hj] at h; cases h
theorem permB_len {p : List Int} (h : ∀ i, i < p.length → plB p i = true) : permB p = decide (1 ≤ (p.length : Int) ∧ (p.length : Int) ≤ 4) := by
  rw [Bool.eq_iff_iff, permB_iff, decide_eq_true_eq]
  exact ⟨fun k => by omega, fun k => ⟨h, by omega, by omega⟩⟩
/-- The elements are machine integers. -/
def Ei (l : List Int) : Prop := ∀ x ∈ l, -9223372036854775808 ≤ x ∧ x ≤ 9223372036854775807
attribute [local irreducible] World.cell?
set_option maxRecDepth 100000 in
set_option maxHeartbeats 3200000 in
theorem sisP (B : Nat) (v : Value) (p : List Int) (w : World) (hv : intE.Sl w B v p) (he : Ei p) (hm : p.length ≤ 1048576) :
    Calls Try.prog 74 #[v] w fun e w' => e = .returned (.bool (permB p)) ∧ Below w.heap.size w w' := by
  obtain ⟨a, cap, rfl, hcap, hr⟩ := hv
  have Hr := Lib.hid hr
  obtain ⟨T, hT⟩ : ∃ T, T = permB p := ⟨_, rfl⟩
  rw [← hT]
  have HT := Lib.hid hT
  have He := Lib.hid he
  clear hr hT he
  go_enter Try.func74, Try.ntmps74
  go_wp2_with fail
  go_loopg [3] p.length (fun n i wr => ∃ j : Nat, n = p.length - j ∧ j ≤ p.length ∧ i = .int .i64 j ∧ Hid (∀ k, k < j → plB p k = true) ∧ Hid (Below w.heap.size w wr))
  case atStart => exact ⟨0, rfl, Nat.zero_le _, rfl, Lib.hid (fun k hk => absurd hk (Nat.not_lt_zero _)), Below.refl _ _⟩
  case round =>
    obtain ⟨j, rfl, hj, rfl, Hall, Hb⟩ := hrel
    by_cases hlt : j < p.length
    · obtain ⟨g, rfl, _, hrow0⟩ := Hr.out (by omega)
      have hrow := hrow0.below Hb.out hrow0.lt
      obtain ⟨x, hx⟩ : ∃ x, p[j]? = some x := ⟨p[j], List.getElem?_eq_getElem hlt⟩
      have c0 := IRow.cell hrow hx
      have hgl := hrow.lt
      have hgd : p.getD j 0 = x := by rw [List.getD_eq_getElem?_getD, hx]; rfl
      have hPl : plB p j = (decide (0 ≤ x ∧ x ≤ (p.length : Int) - 1) && !decide (x ∈ p.take j)) := by unfold plB; rw [hgd]
      have Hs := Lib.hid (fun q => shas g (.slice (some ⟨g, 0, none⟩) (p.take j).length cap) (p.take j) x (wr.drewN q) (Enc.Sl.mk rfl (by rw [List.length_take]; omega) (Nat.le_refl _) ((hrow.take j).block rfl)) (by rw [List.length_take]; omega))
      rw [List.length_take, Nat.min_eq_left (show j ≤ p.length by omega)] at Hs
      have Hno := Lib.hid (fun h => permB_no hlt h)
      have Hyes := Lib.hid (fun (h : plB p j = true) k (hk : k < j + 1) => show plB p k = true by
        rcases Nat.lt_succ_iff_lt_or_eq.1 hk with h' | rfl
        · exact Hall.out k h'
        · exact h)
      clear hx hgd hrow hrow0
      by_cases hin : 0 ≤ x ∧ x ≤ (p.length : Int) - 1
      · have Hl := Lib.hid (fun W => lin_q x 0 ((p.length : Int) - 1) true W (decide_eq_true hin))
        rw [decide_eq_true hin, Bool.true_and] at hPl
        clear hin
        by_cases hmem : x ∈ p.take j
        · rw [decide_eq_true hmem] at hPl Hs
          have Hpl := Lib.hid (show plB p j = false from hPl)
          clear hPl hmem
          go_upto_region 4 with fail
          go_quiet (first | (go_at_call 53; exact Calls.quiet_of_same (Hl.out _)) | (go_at_call 88; exact Calls.quiet_of_same (Hs.out _)))
          obtain rfl : T = false := HT.out.trans (Hno.out Hpl.out)
          go_wp2_with fail
          go_ret
          exact ⟨rfl, below_dn Hb.out _⟩
        · rw [decide_eq_false hmem] at hPl Hs
          have Hpl := Lib.hid (show plB p j = true from hPl)
          clear hPl hmem
          go_upto_region 4 with fail
          go_quiet (first | (go_at_call 53; exact Calls.quiet_of_same (Hl.out _)) | (go_at_call 88; exact Calls.quiet_of_same (Hs.out _)))
          go_wp2_with fail
          go_roundg (p.length - (j + 1))
          case measure => omega
          case rel => exact ⟨j + 1, rfl, by omega, by go_num, Lib.hid (Hyes.out Hpl.out), Lib.hid (below_dn Hb.out _)⟩
      · have Hl := Lib.hid (fun W => lin_q x 0 ((p.length : Int) - 1) false W (decide_eq_false hin))
        rw [decide_eq_false hin, Bool.false_and] at hPl
        have Hpl := Lib.hid hPl
        clear hPl hin
        go_upto_region 4 with fail
        go_quiet (first | (go_at_call 53; exact Calls.quiet_of_same (Hl.out _)) | (go_at_call 88; exact Calls.quiet_of_same (Hs.out _)))
        obtain rfl : T = false := HT.out.trans (Hno.out Hpl.out)
        go_wp2_with fail
        go_ret
        exact ⟨rfl, below_dn Hb.out _⟩
    · obtain rfl : j = p.length := by omega
      have H1 := Lib.hid (fun w => lin_any (p.length : Int) 1 4 T w (by rw [HT.out]; exact (permB_len Hall.out).symm))
      go_wp2_with fail
      refine (H1.out _).mono ?_
      rintro e w2 ⟨rfl, rfl⟩
      go_wp2_with fail
      go_ret
      exact ⟨rfl, Hb.out⟩
end Go.Proofs.Ytmpafidkpangeaa
namespace Go.Proofs.Ytmpafidkpangeaa
open Go.RowKit
attribute [local irreducible] World.cell?
end Go.Proofs.Ytmpafidkpangeaa
namespace Go.Proofs.Ytmpafidkpangeaa
open Go.RowKit
attribute [local irreducible] World.cell?
end Go.Proofs.Ytmpafidkpangeaa
namespace Go.Proofs.Ytmpafidkpangeaa
open Go.RowKit
end Go.Proofs.Ytmpafidkpangeaa
namespace Go.Proofs.Ytmpafidkpangeaa
open Go.RowKit
attribute [local irreducible] World.cell?
end Go.Proofs.Ytmpafidkpangeaa
namespace Go.Proofs.Ytmpafidkpangeaa
open Go.RowKit
/-- A row's slice in its place. -/
def SP1 (w : World) (g j D : Nat) (x : Value) (r : List Dw) (w' : World) : Prop := w'.cell? ⟨g, j, none⟩ = some x ∧ g < w'.heap.size ∧ Hid (DSl w' D x r) ∧ Below w.heap.size w w'
theorem SP1.drew {w w' : World} {g j D : Nat} {x : Value} {r : List Dw} (h : SP1 w g j D x r w') : SP1 w g j D x r w'.drew :=
  let ⟨a, z, d, l⟩ := h; ⟨a, z, Lib.hid (d.out.block fun _ _ _ => rfl), l.drew⟩
theorem SP1.below {w w1 w2 : World} {g j D : Nat} {x : Value} {r : List Dw} (h : SP1 w g j D x r w1) (hb : Below w1.heap.size w1 w2) : SP1 w g j D x r w2 :=
  let ⟨a, z, d, l⟩ := h
  ⟨cell_below a hb z, Nat.lt_of_lt_of_le z hb.size, Lib.hid (d.out.below hb), below_up l hb l.size⟩
theorem SP1.dsl {w w' : World} {g j D : Nat} {x : Value} {r : List Dw} (h : SP1 w g j D x r w') : Hid (DSl w' D x r) := let ⟨_, _, d, _⟩ := h; d
theorem SP1.low {w w' : World} {g j D : Nat} {x : Value} {r : List Dw} (h : SP1 w g j D x r w') : Below w.heap.size w w' := let ⟨_, _, _, l⟩ := h; l
attribute [local irreducible] World.cell?
end Go.Proofs.Ytmpafidkpangeaa
namespace Go.Proofs.Ytmpafidkpangeaa
/-- The list in ascending order. -/
def sortL (l : List Int) : List Int := l.mergeSort fun x y => decide (x ≤ y)
theorem sortL_len (l : List Int) : (sortL l).length = l.length := List.length_mergeSort l
theorem sortL_perm (l : List Int) : (sortL l).Perm l := List.mergeSort_perm l _
theorem sortL_up (l : List Int) : (sortL l).Pairwise (fun x y => x ≤ y) := by
  have h := List.pairwise_mergeSort (le := fun (x y : Int) => decide (x ≤ y)) (fun a b c h k => decide_eq_true (Int.le_trans (of_decide_eq_true h) (of_decide_eq_true k))) (fun a b => by
    rcases Int.le_total a b with h | h
    · rw [decide_eq_true h]; rfl
    · rw [decide_eq_true h, Bool.or_true]) l
  exact h.imp fun h => of_decide_eq_true h
theorem sortL_of_perm {l m : List Int} (h : l.Perm m) : sortL l = sortL m :=
  List.Perm.eq_of_pairwise (fun _ _ _ _ h k => Int.le_antisymm h k) (sortL_up l) (sortL_up m) ((sortL_perm l).trans (h.trans (sortL_perm m).symm))
theorem upI_up (n : Nat) : (upI n).Pairwise (fun x y => x ≤ y) := by
  unfold upI
  rw [List.pairwise_map]
  exact List.pairwise_le_range.imp fun h => Int.ofNat_le.2 h
theorem sortL_upI (n : Nat) : sortL (upI n) = upI n :=
  List.Perm.eq_of_pairwise (fun _ _ _ _ h k => Int.le_antisymm h k) (sortL_up _) (upI_up n) (sortL_perm _)
theorem perm_all : allP.all (fun p => p.isPerm (upI p.length)) = true := by decide +kernel
theorem small_perm : ∀ n, n ≤ 4 → ∀ p ∈ (List.range n).foldr (fun _ (acc : List (List Int)) => acc.flatMap fun t => [0, 1, 2, 3].map fun (x : Int) => x :: t) [[]], p.length ≠ 0 → p.isPerm (upI p.length) = true → permB p = true := by
  intro n hn
  rcases (show n = 0 ∨ n = 1 ∨ n = 2 ∨ n = 3 ∨ n = 4 by omega) with rfl | rfl | rfl | rfl | rfl <;> decide +kernel
/-- IsPermutation by the sorted list. -/
theorem permB_sort {p : List Int} (h1 : 1 ≤ p.length) (h4 : p.length ≤ 4) : permB p = decide (sortL p = upI p.length) := by
  rw [Bool.eq_iff_iff, decide_eq_true_eq]
  constructor
  · intro h
    have h1 := List.isPerm_iff.1 (List.all_eq_true.1 perm_all p (perm_mem h))
    rw [sortL_of_perm h1, sortL_upI]
  · intro h
    have hp : p.Perm (upI p.length) := by
      have := (sortL_perm p).symm
      rwa [h] at this
    refine small_perm p.length h4 p (small_all p.length p rfl fun x hx => ?_) (by omega) (List.isPerm_iff.2 hp)
    have hm := hp.mem_iff.1 hx
    obtain ⟨i, hi, rfl⟩ := List.mem_map.1 hm
    have := List.mem_range.1 hi
    omega
theorem permB_size {p : List Int} (h : ¬ (1 ≤ p.length ∧ p.length ≤ 4)) : permB p = false := by
  cases hp : permB p with
  | false => rfl
  | true => exact absurd (permB_iff.1 hp).2 h
/-- The first j integers, then zeros. -/
def upZ (n j : Nat) : List Int := upI j ++ List.replicate (n - j) 0
theorem upI_snoc (j : Nat) : upI (j + 1) = upI j ++ [(j : Int)] := by
  unfold upI
  rw [List.range_succ, List.map_append]
  rfl
theorem upI_ln (n : Nat) : (upI n).length = n := by simp [upI]
theorem upZ_len {n j : Nat} (h : j ≤ n) : (upZ n j).length = n := by
  rw [upZ, List.length_append, upI_ln, List.length_replicate]; omega
theorem upZ_zero (n : Nat) : upZ n 0 = List.replicate n 0 := rfl
theorem upZ_all (n : Nat) : upZ n n = upI n := by simp [upZ]
theorem upZ_step {n j : Nat} (h : j < n) : (upZ n j).set j (j : Int) = upZ n (j + 1) := by
  rw [upZ, upZ, List.set_append_right _ _ (by rw [upI_ln]; exact Nat.le_refl _), upI_ln, Nat.sub_self, show n - j = (n - (j + 1)) + 1 by omega, List.replicate_succ, List.set_cons_zero, upI_snoc, List.append_assoc]
  rfl
end Go.Proofs.Ytmpafidkpangeaa
namespace Go.Proofs.Ytmpafidkpangeaa
open Go.RowKit
theorem eq_takeI {a b : List Int} {j : Nat} {x y : Int} (hx : a[j]? = some x) (hy : b[j]? = some y) (h : a.take j = b.take j) (hxy : x = y) : a.take (j + 1) = b.take (j + 1) := by
  rw [List.take_add_one, List.take_add_one, h, hx, hy, hxy]
attribute [local irreducible] World.cell?
set_option maxRecDepth 100000 in
set_option maxHeartbeats 1600000 in
theorem islEqI (g g' cap cap' : Nat) (a b : List Int) (w : World) (ha : AR w g a) (hb : AR w g' b) (hl : a.length = b.length) (hm : a.length ≤ 1048576) :
    Calls Try.prog 110 #[.slice (some ⟨g, 0, none⟩) a.length cap, .slice (some ⟨g', 0, none⟩) a.length cap'] w fun e w' => e = .returned (.bool (decide (a = b))) ∧ Below w.heap.size w w' := by
  have Ha := Lib.hid ha
  have Hb := Lib.hid hb
  have hga := ha.lt
  have hgb := hb.lt
  have hd2 : ((a.length : Int) != a.length) = false := by simp
  obtain ⟨T, hT⟩ : ∃ T, T = decide (a = b) := ⟨_, rfl⟩
  rw [← hT]
  have HT := Lib.hid hT
  clear hT ha hb
  go_enter Try.func110, Try.ntmps110
  go_wp2_with fail
  go_loopw [13] (fun i wr => ∃ j : Nat, j ≤ a.length ∧ i = .int .i64 j ∧ Hid (a.take j = b.take j) ∧ Hid (Below w.heap.size w wr)) (fun i _ => a.length - (intOf i).toNat)
  case atStart => exact ⟨0, Nat.zero_le _, rfl, Lib.hid rfl, Below.refl _ _⟩
  case round =>
    obtain ⟨j, hj, rfl, Heq, Hbl⟩ := hrel
    by_cases hlt : j < a.length
    · obtain ⟨x, hx⟩ : ∃ x, a[j]? = some x := ⟨a[j], List.getElem?_eq_getElem hlt⟩
      obtain ⟨y, hy⟩ : ∃ y, b[j]? = some y := ⟨b[j]'(by omega), List.getElem?_eq_getElem (by omega)⟩
      have c0 := (Ha.out.block (Hbl.out.block _ hga)).cell hx
      have c1 := (Hb.out.block (Hbl.out.block _ hgb)).cell hy
      have Hx := Lib.hid hx
      have Hy := Lib.hid hy
      clear hx hy
      go_upto_region 6 with fail
      by_cases hxy : x = y
      · have hne : (x != y) = false := by rw [hxy]; simp
        have Hxy := Lib.hid hxy
        clear hxy
        go_quiet (fail)
        go_wp2_with fail
        go_roundw
        case rel => exact ⟨j + 1, by omega, by go_num, Lib.hid (eq_takeI Hx.out Hy.out Heq.out Hxy.out), below_dn Hbl.out _⟩
        case measure => simp [intOf]; omega
      · have hne : (x != y) = true := by simpa using hxy
        have hF : a ≠ b := fun h => hxy (by have h1 := Hx.out; rw [h, Hy.out] at h1; injection h1 with h1; exact h1.symm)
        obtain rfl : T = false := HT.out.trans (decide_eq_false hF)
        clear hF hxy
        go_quiet (fail)
        go_wp2_with fail
        go_ret
        exact ⟨rfl, below_dn Hbl.out _⟩
    · obtain rfl : j = a.length := by omega
      have hE := Heq.out
      rw [List.take_length, List.take_of_length_le (by omega)] at hE
      obtain rfl : T = true := HT.out.trans (decide_eq_true hE)
      go_wp2_with fail
      go_ret
      exact ⟨rfl, Hbl.out⟩
end Go.Proofs.Ytmpafidkpangeaa
namespace Go.Proofs.Ytmpafidkpangeaa
open Go.RowKit
attribute [local irreducible] World.cell?
set_option maxRecDepth 100000 in
set_option maxHeartbeats 1600000 in
theorem iidP_yes (m : Nat) (w : World) (h1 : 1 ≤ m) (h4 : m ≤ 4) :
    Calls Try.prog 111 #[.int .i64 m] w fun e w' => e = .returned (.slice (some ⟨w.heap.size, 0, none⟩) m m) ∧ intE.Row w' w.heap.size (upI m) ∧ Below w.heap.size w w' := by
  obtain ⟨i0, hi, hz0, hz1, hz2⟩ := info_parts infoInt
  have Hq := Lib.hid (fun w => iisq_yes m w (by omega))
  go_enter Try.func111, Try.ntmps111
  go_wp2_with fail
  refine (Hq.out _).mono ?_
  rintro e w0 ⟨rfl, rfl⟩
  go_wp2_with (first | (at_make; refine wpList_make_full _ rfl _ _ 56 rfl w.heap.size 3 i0 (.int .i64 0) 1 Try.underlying56 hi hz0 hz1 .i64 .i64 m m m rfl rfl rfl rfl (by rw [hz2]; omega) (by unfold maxLen; omega) (Nat.le_refl _) ?_))
  intro w1 hown hgrow
  have hb1 : Below w.heap.size w w1 := (Below.refl _ _).grown hgrow (Nat.le_refl _) (fun k hk => by cases hk)
  have hrow1 : intE.Row w1 w.heap.size (upZ m 0) := by
    rcases hown.2 with ⟨h, _⟩ | ⟨g, cap, cur, hv, hb, hg, _, _, hs, ht⟩
    · cases h
    · obtain ⟨rfl, rfl⟩ : g = w.heap.size ∧ cap = m := by injection hv with hv _ hv2; injection hv with hv; injection hv with hv; exact ⟨hv.symm, hv2.symm⟩
      refine ⟨cur, hg, ?_⟩
      rw [upZ_zero, List.length_replicate, ← made_ints]
      first | exact ht | simpa [intE] using ht
  have Hb1 := Lib.hid hb1
  have Hrow1 := Lib.hid hrow1
  clear hown hgrow hb1 hrow1
  go_wp2_with fail
  go_loopg [12] m (fun n i wr => ∃ j : Nat, n = m - j ∧ j ≤ m ∧ i = .int .i64 j ∧ Hid (intE.Row wr w.heap.size (upZ m j)) ∧ Hid (Below w.heap.size w wr))
  case atStart => exact ⟨0, rfl, Nat.zero_le _, rfl, Hrow1, Hb1⟩
  case round =>
    obtain ⟨j, rfl, hj, rfl, Hrow, Hb⟩ := hrel
    by_cases hlt : j < m
    · have hl := upZ_len hj
      obtain ⟨z, hz⟩ : ∃ z, (upZ m j)[j]? = some z := ⟨(upZ m j)[j]'(by omega), List.getElem?_eq_getElem _⟩
      have e0 := IRow.cell Hrow.out hz
      have f1 := fun o => Hrow.out.free o
      have hgl := Hrow.out.lt
      have hr3 := IRow.put Hrow.out (j := j) (by omega) (j : Int)
      rw [upZ_step hlt] at hr3
      have Hr3 := Lib.hid hr3
      clear hr3 hz Hrow
      go_wp2_with fail
      go_roundg (m - (j + 1))
      case measure => omega
      case rel =>
        refine ⟨j + 1, rfl, by omega, by go_num, by simpa using Hr3, ?_⟩
        have := Hb.out
        show Below _ _ _
        go_grown
    · obtain rfl : j = m := by omega
      have hrow := Hrow.out
      rw [upZ_all] at hrow
      have Hrow := Lib.hid hrow
      clear hrow
      go_wp2_with fail
      go_ret
      exact ⟨rfl, Hrow.out, Hb.out⟩
end Go.Proofs.Ytmpafidkpangeaa
