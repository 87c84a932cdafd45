/- BaseB20: several of our texts in one: CiS ApG CiL CiT CpN CpR. -/
import Derived.Test.YtadimihfbpkilaaBaseB11
import Derived.Test.YtadimihfbpkilaaCpM
import Derived.Test.YtadimihfbpkilaaBaseB12
import Derived.Laws.StructEq
import Derived.Test.YtadimihfbpkilaaBaseB19
import Derived.Test.YtadimihfbpkilaaGsL
import Derived.Test.YtadimihfbpkilaaBaseB10
import Derived.Test.YtadimihfbpkilaaBaseB15
import Derived.Test.YtadimihfbpkilaaBaseB13
import Derived.Test.YtadimihfbpkilaaBaseB16
namespace Go.Proofs.Ytadimihfbpkilaa
open Go.RowKit
def eqGB (x y : Gt) : Bool := x.k == y.k && (x.a == y.a && (x.b == y.b && x.c == y.c))
theorem eqGB_iff {x y : Gt} : eqGB x y = true ↔ x = y := by
  simp only [eqGB, Bool.and_eq_true, beq_iff_eq]
  exact ⟨fun ⟨h0, h1, h2, h3⟩ => by cases x; cases y; simp_all, fun h => by subst h; exact ⟨rfl, rfl, rfl, rfl⟩⟩
theorem eqGB_no {x y : Gt} (h : x ≠ y) : eqGB x y = false := by
  rw [Bool.eq_false_iff]; exact fun k => h (eqGB_iff.1 k)
instance : DecidableEq Gt := fun x y => if h : eqGB x y = true then .isTrue (eqGB_iff.1 h) else .isFalse fun k => h (eqGB_iff.2 k)
theorem ite4 (p q r s : Prop) [Decidable p] [Decidable q] [Decidable r] [Decidable s] (w : World) :
    (if p then if q then if r then if s then Result.ok (Value.bool true) w else Result.ok (Value.bool false) w else Result.ok (Value.bool false) w else Result.ok (Value.bool false) w else Result.ok (Value.bool false) w) =
    Result.ok (Value.bool (decide p && (decide q && (decide r && decide s)))) w := by
  by_cases p <;> by_cases q <;> by_cases r <;> by_cases s <;> simp [*]
set_option maxRecDepth 100000 in
set_option maxHeartbeats 1600000 in
theorem eqGv (x y : Gt) (w : World) : (binOp .eql 30 (.agg #[.int .i64 x.k, .int .i64 x.a, .int .i64 x.b, .int .i64 x.c]) (.agg #[.int .i64 y.k, .int .i64 y.a, .int .i64 y.b, .int .i64 y.c])).run Try.prog w = .ok (.bool (eqGB x y)) w := by
  rw [run_eql_struct, run_equalIn_struct _ 9999 _ _ _ (by kernel_rfl) (by kernel_rfl)]
  simp [go_sem]
  rw [ite4]
  rfl
set_option maxRecDepth 100000 in
set_option maxHeartbeats 1600000 in
theorem neGv (x y : Gt) (w : World) : (binOp .neq 30 (.agg #[.int .i64 x.k, .int .i64 x.a, .int .i64 x.b, .int .i64 x.c]) (.agg #[.int .i64 y.k, .int .i64 y.a, .int .i64 y.b, .int .i64 y.c])).run Try.prog w = .ok (.bool (!eqGB x y)) w := by
  rw [run_neq_struct]
  have h := eqGv x y w
  rw [run_eql_struct] at h
  generalize (Op.equalIn 10000 30 (.agg #[.int .i64 x.k, .int .i64 x.a, .int .i64 x.b, .int .i64 x.c]) (.agg #[.int .i64 y.k, .int .i64 y.a, .int .i64 y.b, .int .i64 y.c])).run Try.prog w = r at *
  cases r with
  | ok b w1 => simp only [Result.andThen_ok, Result.ok.injEq, Value.bool.injEq] at h ⊢; exact ⟨by rw [h.1], h.2⟩
  | halt a w1 => simp [Result.andThen] at h
theorem eqG_take {a b : List Gt} {j : Nat} {x y : Gt} (hx : a[j]? = some x) (hy : b[j]? = some y) (h : a.take j = b.take j) (hxy : x = y) : a.take (j + 1) = b.take (j + 1) := by
  rw [List.take_add_one, List.take_add_one, h, hx, hy, hxy]
attribute [local irreducible] World.cell?
theorem invL_len (L : List Gt) : (invL L).length = L.length := by simp [invL]
theorem invL_at {L : List Gt} {q : Nat} {x : Gt} (hx : L[q]? = some x) : (invL L)[L.length - (q + 1)]? = some (invG x) := by
  have hq : q < L.length := by
    rcases Nat.lt_or_ge q L.length with h' | h'
    · exact h'
    · rw [List.getElem?_eq_none h'] at hx; cases hx
  rw [invL, List.getElem?_reverse (by rw [List.length_map]; omega), List.getElem?_map, List.length_map, show L.length - 1 - (L.length - (q + 1)) = q by omega, hx]
  rfl
theorem invL_step {L : List Gt} {q : Nat} {x : Gt} (hx : L[q]? = some x) : gtE.flat ((invL L).take (L.length - (q + 1))) ++ gtE.fl (invG x) = gtE.flat ((invL L).take (L.length - q)) := by
  have hq : q < L.length := by
    rcases Nat.lt_or_ge q L.length with h' | h'
    · exact h'
    · rw [List.getElem?_eq_none h'] at hx; cases hx
  rw [gtE.flat_snoc, show L.length - q = (L.length - (q + 1)) + 1 by omega, List.take_add_one, invL_at hx]
  rfl
theorem infoG3 : (Try.prog.info? 30).map (fun i => (i.zero, i.size, i.bytes)) = some (some (.agg #[.int .i64 0, .int .i64 0, .int .i64 0, .int .i64 0]), 4, 32) := by kernel_rfl
end Go.Proofs.Ytadimihfbpkilaa
namespace Go.Proofs.Ytadimihfbpkilaa
open Go.RowKit
theorem GsIn.of_slice {w : World} {B n cap : Nat} {a : Option Addr} {l : List Gt} (h : gtE.Sl w B (.slice a n cap) l) (hm : l.length ≤ 1048576) : GsIn w w.heap.size a l := by
  obtain ⟨a', cap', e, h'⟩ := GsIn.of_sl h hm
  injection e with e1
  rw [e1]
  exact h'
theorem GsIn.empty {w : World} {B : Nat} {a : Option Addr} {l : List Gt} (h : l.length = 0) : GsIn w B a l := ⟨by omega, fun h0 => absurd h0 (by omega)⟩
theorem GsIn.drop_slice {w : World} {B n cap k : Nat} {a : Option Addr} {l : List Gt} (h : gtE.Sl w B (.slice a n cap) l) (hm : l.length ≤ 1048576) : GsIn w w.heap.size (Option.map (fun x => x.add (k * 4)) a) (l.drop k) := by
  by_cases h0 : 0 < l.length
  · have hg := GsIn.of_slice h hm
    obtain ⟨a', cap', e, -, h3⟩ := h
    injection e with e1
    obtain ⟨g, e2, -, -⟩ := h3 h0
    subst e1 e2
    have hd := hg.drop k
    have ha : (⟨g, 0, none⟩ : Addr).add (k * 4) = ⟨g, 0 + k * 4, none⟩ := by
      unfold Addr.add
      by_cases hk : k * 4 = 0
      · simp [hk]
      · simp [hk]
    rw [Option.map_some, ha]
    exact hd
  · exact GsIn.empty (by rw [List.length_drop]; omega)
theorem szGfit (a0 : Option Addr) (n cap : Nat) (l : Int) (w : World) (h : (n : Int) ≤ l) (l0 : 0 ≤ l) (l1 : l ≤ 1048576) :
    Calls Try.prog 24 #[.slice a0 n cap, .int .i64 l] w fun e w' => e = .returned (.int .i64 (l - n)) ∧ w = w' := by
  have h2 := szGs a0 n cap l w (by unfold maxLen; omega) l0 l1
  rwa [if_pos h] at h2
theorem szGbig (a0 : Option Addr) (n cap : Nat) (l : Int) (w : World) (hn : n ≤ maxLen) (h : ¬ (n : Int) ≤ l) (l0 : 0 ≤ l) (l1 : l ≤ 1048576) :
    Calls Try.prog 24 #[.slice a0 n cap, .int .i64 l] w fun e w' => e = .returned (.int .i64 (-1)) ∧ w = w' := by
  have h2 := szGs a0 n cap l w hn l0 l1
  rwa [if_neg h] at h2
theorem agsV_le (L : List Gt) (l : List Dw) : (agsV L l).length ≤ l.length := by
  cases h : agsB L l with
  | true => rw [agsV_len h]; exact Nat.le_refl _
  | false => rw [agsV_no h]; exact Nat.zero_le _
theorem pow_le16 {n : Int} (h : 1 ≤ n ∧ n ≤ 4) : 2 ^ n.toNat ≤ 16 := by
  rcases (show n = 1 ∨ n = 2 ∨ n = 3 ∨ n = 4 by omega) with rfl | rfl | rfl | rfl <;> decide
theorem gmM_amps (g : Gt) (n : Int) : (gmM g n).length ≤ 1048576 ∧ amps (gmM g n) ≤ 1048576 := by
  unfold gmM
  split
  · rename_i h
    have h16 := pow_le16 (gtB_parts h).1
    have hL := gmL_len g n
    have hc : (colsM (gmL g n)).length = 2 ^ n.toNat := by rw [colsM_len, hL]
    have hr := amps_rect (n := 2 ^ n.toNat) (M := colsM (gmL g n)) fun r hr => by
      obtain ⟨k, -, rfl⟩ := List.mem_map.1 hr
      rw [col_len, hL]
    refine ⟨by omega, ?_⟩
    rw [hr, hc]
    exact Nat.le_trans (Nat.mul_le_mul h16 h16) (by decide)
  · exact ⟨by decide, by decide⟩
theorem gmL_step {g : Gt} {n j : Nat} (hj : j < 2 ^ n) : (gmL g n).take (j + 1) = (gmL g n).take j ++ [agV g (basisL n j)] := by
  rw [List.take_add_one, gmL, Int.toNat_natCast, List.getElem?_map, List.getElem?_range hj]
  rfl
theorem gmM_eb (g : Gt) (n : Int) : EbM (gmM g n) := by
  unfold gmM
  split
  · intro r hr x hx
    obtain ⟨k, -, rfl⟩ := List.mem_map.1 hr
    obtain ⟨q, hq, rfl⟩ := List.mem_map.1 hx
    obtain ⟨i, -, rfl⟩ := List.mem_map.1 hq
    exact ok_eb (getD_ok (agV_oks g _) k)
  · intro r hr; cases hr
attribute [local irreducible] World.cell?
end Go.Proofs.Ytadimihfbpkilaa
namespace Go.Proofs.Ytadimihfbpkilaa
open Go.RowKit
theorem marksG_at {k n j : Nat} (h : j < n) : (marksG k n)[j]? = some (mk4 (k + j * 4)) := by
  rw [marksG, List.getElem?_map, List.getElem?_range h]; rfl
theorem set2_at {w : World} {b : Nat} {z0 z1 u0 u1 : Value} {t : TypeId} (h : w.heap[b]? = some (.cells #[z0, z1] t (0, 0))) : ((w.setCell ⟨b, 0, none⟩ u0).setCell ⟨b, 1, none⟩ u1).heap[b]? = some (.cells #[u0, u1] t (0, 0)) := by
  have h1 := heap_set h 0 u0
  exact heap_set h1 1 u1
attribute [local irreducible] World.cell?
set_option maxRecDepth 100000 in
set_option maxHeartbeats 3200000 in
theorem heldGs (B k n : Nat) (v : Value) (w : World) (hv : gtE.Sl w B v (marksG k n)) (hm : n ≤ 1048576) (hk : k ≤ 1073741824) :
    Calls Try.prog 23 #[v, .int .i64 k] w fun e w' => e = .returned (.int .i64 ((k + n * 4 : Nat) : Int)) ∧ w = w' := by
  obtain ⟨a, cap, rfl, hcap, hr⟩ := hv
  rw [marksG_len] at hcap hr ⊢
  have Hr := Lib.hid hr
  clear hr
  go_enter Try.func23, Try.ntmps23
  go_wp2_with fail
  go_loopw [1, 5] (fun m i wr => ∃ j : Nat, j ≤ n ∧ m = .int .i64 ((k + j * 4 : Nat) : Int) ∧ i = .int .i64 j ∧ w = wr) (fun _ i _ => n - (intOf i).toNat)
  case atStart => exact ⟨0, Nat.zero_le _, by simp, rfl, rfl⟩
  case round =>
    obtain ⟨j, hj, rfl, rfl, rfl⟩ := hrel
    by_cases hlt : j < n
    · obtain ⟨g, rfl, hB, hrow⟩ := Hr.out (by omega)
      obtain ⟨c0, c1, c2, c3⟩ := GRow.cells hrow (marksG_at hlt)
      have m0 : (mk4 (k + j * 4)).k = (k : Int) + j * 4 := by simp [mk4]
      have m1 : (mk4 (k + j * 4)).a = (k : Int) + j * 4 + 1 := by simp [mk4]
      have m2 : (mk4 (k + j * 4)).b = (k : Int) + j * 4 + 1 + 1 := by simp [mk4]; omega
      have m3 : (mk4 (k + j * 4)).c = (k : Int) + j * 4 + 1 + 1 + 1 := by simp [mk4]; omega
      rw [m0] at c0; rw [m1] at c1; rw [m2] at c2; rw [m3] at c3
      clear m0 m1 m2 m3 hrow
      go_wp2_with fail
      go_roundw
      case rel => exact ⟨j + 1, by omega, by go_num, by go_num, trivial⟩
      case measure => simp [intOf]; omega
    · obtain rfl : j = n := by omega
      go_wp2_with fail
      go_ret
      exact ⟨rfl, rfl⟩
theorem mid_alloc {B C : Nat} {w w1 : World} {o : Obj} (h : Mid B C (w.alloc o) w1) (hB : B ≤ w.heap.size) : Mid B C w w1 :=
  ⟨((Below.refl B w).alloc hB o).trans h.1, fun b hb hl => (h.2 b hb (by simp; omega)).trans (Below.heap_alloc _ _ _ hl)⟩
end Go.Proofs.Ytadimihfbpkilaa
namespace Go.Proofs.Ytadimihfbpkilaa
open Go.RowKit
attribute [local irreducible] World.cell?
end Go.Proofs.Ytadimihfbpkilaa
namespace Go.Proofs.Ytadimihfbpkilaa
/-- The numerators alone. -/
def nums (L : List (Nat × Dw)) : List (Nat × Dw) := L.map fun p => (p.1, (⟨p.2.n, 1⟩ : Dw))
/-- The root's power below a gate's numerators. -/
def scK (k : Int) : Nat := if k = 4 then 1 else 0
def uniK (k : Int) (A B C : Nat) : Bool := (List.range 16).all fun i => (List.range 16).all fun j => decide (cfs (nums (goesL k A B C i)) (fun m => (cf (nums (goesL k A B C j)) m).conj) = if i = j then rootN (2 * scK k) oneZ else .zero)
theorem uni_1 : ([1, 2, 3, 4, 5, 6, 7, 8] : List Int).all (fun k => (List.range 4).all fun A => uniK k A 0 0) = true := by decide +kernel
theorem uni_2 : ([9, 10, 11] : List Int).all (fun k => (List.range 4).all fun A => (List.range 4).all fun B => A == B || uniK k A B 0) = true := by decide +kernel
theorem uni_3 : ((List.range 4).all fun A => (List.range 4).all fun B => (List.range 4).all fun C => A == B || C == A || C == B || uniK 12 A B C) = true := by decide +kernel
theorem goes_uni {g : Gt} {n : Int} (h : gtB g n = true) {i j : Nat} (hi : i < 16) (hj : j < 16) : cfs (nums (goesG g i)) (fun m => (cf (nums (goesG g j)) m).conj) = if i = j then rootN (2 * scK g.k) oneZ else .zero := by
  obtain ⟨hn, -, ha, hb, hc⟩ := gtB_parts h
  have hk := gtB_kinds h
  have key : uniK g.k g.a.toNat g.b.toNat g.c.toNat = true := by
    rcases hk with ⟨k1, k2, b0, c0⟩ | ⟨k1, k2, hab, c0⟩ | ⟨k, hab, hca, hcb⟩
    · have h1 := List.all_eq_true.1 uni_1 g.k (by simp; omega)
      have h2 := List.all_eq_true.1 h1 g.a.toNat (List.mem_range.2 (by omega))
      rw [b0, c0]; exact h2
    · have h1 := List.all_eq_true.1 uni_2 g.k (by simp; omega)
      have h2 := List.all_eq_true.1 (List.all_eq_true.1 h1 g.a.toNat (List.mem_range.2 (by omega))) g.b.toNat (List.mem_range.2 (by omega))
      rw [Bool.or_eq_true, beq_iff_eq] at h2
      rw [c0]; exact h2.resolve_left (by omega)
    · have h2 := List.all_eq_true.1 (List.all_eq_true.1 (List.all_eq_true.1 uni_3 g.a.toNat (List.mem_range.2 (by omega))) g.b.toNat (List.mem_range.2 (by omega))) g.c.toNat (List.mem_range.2 (by omega))
      rw [Bool.or_eq_true, Bool.or_eq_true, Bool.or_eq_true, beq_iff_eq, beq_iff_eq, beq_iff_eq] at h2
      rw [k]
      exact h2.resolve_left (by omega)
  exact of_decide_eq_true (List.all_eq_true.1 (List.all_eq_true.1 key i (List.mem_range.2 hi)) j (List.mem_range.2 hj))
end Go.Proofs.Ytadimihfbpkilaa
namespace Go.Proofs.Ytadimihfbpkilaa
/-- A gate with other qubits. -/
def movG (p : List Int) (g : Gt) : Gt := ⟨g.k, atI p g.a, if 1 < ar g.k then atI p g.b else 0, if 2 < ar g.k then atI p g.c else 0⟩
/-- PermuteIndex as a map of indices. -/
def px (p : List Int) (i : Nat) : Nat := (pix p (i : Int)).toNat
theorem px_list : allP.all (fun p => ((List.range (2 ^ p.length)).map (px p)).isPerm (List.range (2 ^ p.length))) = true := by decide +kernel
theorem px_bits : allP.all (fun p => (List.range p.length).all fun q => (List.range (2 ^ p.length)).all fun i => (bitN (px p i) (atI p (q : Int)).toNat == bitN i q) && (flipN (px p i) (atI p (q : Int)).toNat == px p (flipN i q)) && decide (flipN i q < 2 ^ p.length)) = true := by decide +kernel
theorem px_perm {p : List Int} (h : permB p = true) : ((List.range (2 ^ p.length)).map (px p)).Perm (List.range (2 ^ p.length)) := List.isPerm_iff.1 (List.all_eq_true.1 px_list p (perm_mem h))
theorem px_lt {p : List Int} (h : permB p = true) {i : Nat} (hi : i < 2 ^ p.length) : px p i < 2 ^ p.length :=
  List.mem_range.1 ((px_perm h).mem_iff.1 (List.mem_map.2 ⟨i, List.mem_range.2 hi, rfl⟩))
theorem px_onto {p : List Int} (h : permB p = true) {k : Nat} (hk : k < 2 ^ p.length) : ∃ i, i < 2 ^ p.length ∧ px p i = k := by
  obtain ⟨i, hi, e⟩ := List.mem_map.1 ((px_perm h).mem_iff.2 (List.mem_range.2 hk))
  exact ⟨i, List.mem_range.1 hi, e⟩
theorem px_inj {p : List Int} (h : permB p = true) {i j : Nat} (hi : i < 2 ^ p.length) (hj : j < 2 ^ p.length) (e : px p i = px p j) : i = j := by
  have hn : ((List.range (2 ^ p.length)).map (px p)).Nodup := (px_perm h).nodup_iff.2 List.nodup_range
  have hp := List.pairwise_iff_getElem.1 hn
  rcases Nat.lt_trichotomy i j with hl | hl | hl
  · exact absurd (by rw [List.getElem_map, List.getElem_map, List.getElem_range, List.getElem_range]; exact e) (hp i j (by simpa using hi) (by simpa using hj) hl)
  · exact hl
  · exact absurd (by rw [List.getElem_map, List.getElem_map, List.getElem_range, List.getElem_range]; exact e.symm) (hp j i (by simpa using hj) (by simpa using hi) hl)
theorem px_at {p : List Int} (h : permB p = true) {q i : Nat} (hq : q < p.length) (hi : i < 2 ^ p.length) : bitN (px p i) (atI p (q : Int)).toNat = bitN i q ∧ flipN (px p i) (atI p (q : Int)).toNat = px p (flipN i q) ∧ flipN i q < 2 ^ p.length := by
  have h1 := List.all_eq_true.1 (List.all_eq_true.1 (List.all_eq_true.1 px_bits p (perm_mem h)) q (List.mem_range.2 hq)) i (List.mem_range.2 hi)
  rw [Bool.and_eq_true, Bool.and_eq_true, beq_iff_eq, beq_iff_eq, decide_eq_true_eq] at h1
  exact ⟨h1.1.1, h1.1.2, h1.2⟩
theorem px_low {p : List Int} (h : permB p = true) {q i : Nat} (hq : q < p.length) (hi : i < 2 ^ p.length) : lowN (px p i) (atI p (q : Int)).toNat = px p (lowN i q) ∧ lowN i q < 2 ^ p.length := by
  obtain ⟨h1, h2, h3⟩ := px_at h hq hi
  unfold lowN
  rw [h1, h2]
  cases bitN i q
  · exact ⟨rfl, hi⟩
  · exact ⟨rfl, h3⟩
theorem gk1 (A B C i : Nat) : goesL 1 A B C i = [(flipN i A, dPh 0)] := rfl
theorem gk2 (A B C i : Nat) : goesL 2 A B C i = [(flipN i A, dPh (if bitN i A then 6 else 2))] := rfl
theorem gk3 (A B C i : Nat) : goesL 3 A B C i = [(i, if bitN i A then dPh 4 else dPh 0)] := rfl
theorem gk4 (A B C i : Nat) : goesL 4 A B C i = [(lowN i A, isV 1), (flipN (lowN i A) A, if bitN i A then dNegV (isV 1) else isV 1)] := rfl
theorem gk5 (A B C i : Nat) : goesL 5 A B C i = [(i, if bitN i A then dPh 2 else dPh 0)] := rfl
theorem gk6 (A B C i : Nat) : goesL 6 A B C i = [(i, if bitN i A then dPh 6 else dPh 0)] := rfl
theorem gk7 (A B C i : Nat) : goesL 7 A B C i = [(i, if bitN i A then dPh 1 else dPh 0)] := rfl
theorem gk8 (A B C i : Nat) : goesL 8 A B C i = [(i, if bitN i A then dPh 7 else dPh 0)] := rfl
theorem gk9 (A B C i : Nat) : goesL 9 A B C i = [(if bitN i A then flipN i B else i, dPh 0)] := rfl
theorem gk10 (A B C i : Nat) : goesL 10 A B C i = [(i, if (bitN i A && bitN i B) then dPh 4 else dPh 0)] := rfl
theorem gk11 (A B C i : Nat) : goesL 11 A B C i = [(if bitN i A != bitN i B then flipN (flipN i A) B else i, dPh 0)] := rfl
theorem gk12 (A B C i : Nat) : goesL 12 A B C i = [(if (bitN i A && bitN i B) then flipN i C else i, dPh 0)] := rfl
/-- Where a relabelled gate sends an amplitude. -/
theorem goes_mov {p : List Int} (hp : permB p = true) {g : Gt} (hg : gtB g p.length = true) {i : Nat} (hi : i < 2 ^ p.length) : goesG (movG p g) (px p i) = (goesG g i).map fun q => (px p q.1, q.2) := by
  obtain ⟨-, -, ha, hb, hc⟩ := gtB_parts hg
  obtain ⟨a, ha'⟩ := Int.eq_ofNat_of_zero_le ha.1
  obtain ⟨b, hb'⟩ := Int.eq_ofNat_of_zero_le hb.1
  obtain ⟨c, hc'⟩ := Int.eq_ofNat_of_zero_le hc.1
  have A := fun j hj => px_at hp (q := a) (i := j) (by omega) hj
  have B := fun j hj => px_at hp (q := b) (i := j) (by omega) hj
  have C := fun j hj => px_at hp (q := c) (i := j) (by omega) hj
  have LA := px_low hp (q := a) (i := i) (by omega) hi
  have eA := (A i hi).1
  have eB := (B i hi).1
  have eFA := (A i hi).2.1
  have eFB := (B i hi).2.1
  have eFC := (C i hi).2.1
  have eFF := (B _ (A i hi).2.2).2.1
  have eFL := (A _ LA.2).2.1
  have eL := LA.1
  rcases gtB_kinds hg with ⟨k1, k2, b0, c0⟩ | ⟨k1, k2, -, c0⟩ | ⟨k, -, -, -⟩
  · have har : ar g.k = 1 := if_pos ⟨k1, k2⟩
    unfold goesG movG
    simp only [har, ha']
    rw [b0, c0]
    simp only [Nat.lt_irrefl, show ¬ (2 < 1) by decide, if_false, Int.toNat_zero, ← ha']
    rw [ha']
    rcases (show g.k = 1 ∨ g.k = 2 ∨ g.k = 3 ∨ g.k = 4 ∨ g.k = 5 ∨ g.k = 6 ∨ g.k = 7 ∨ g.k = 8 by omega) with e | e | e | e | e | e | e | e <;> rw [e] <;> simp only [gk1, gk2, gk3, gk4, gk5, gk6, gk7, gk8, eA, eFA, eL, eFL, Int.toNat_natCast] <;> cases bitN i a <;> rfl
  · have har : ar g.k = 2 := by rw [ar, if_neg (by omega), if_pos ⟨k1, k2⟩]
    unfold goesG movG
    simp only [har, ha', hb']
    rw [c0]
    simp only [show 1 < 2 by decide, Nat.lt_irrefl, if_true, if_false, Int.toNat_natCast, Int.toNat_zero]
    rcases (show g.k = 9 ∨ g.k = 10 ∨ g.k = 11 by omega) with e | e | e <;> rw [e] <;> simp only [gk9, gk10, gk11, eA, eB, eFA, eFB, eFF] <;> cases bitN i a <;> cases bitN i b <;> rfl
  · have har : ar g.k = 3 := by rw [k]; rfl
    unfold goesG movG
    simp only [har, ha', hb', hc', show 1 < 3 by decide, show 2 < 3 by decide, if_true, Int.toNat_natCast]
    rw [k]
    simp only [gk12, eA, eB, eFC]
    cases bitN i a <;> cases bitN i b <;> rfl
theorem cf_map {N : Nat} {f : Nat → Nat} (hf : ∀ i, i < N → ∀ j, j < N → f i = f j → i = j) : ∀ (L : List (Nat × Dw)) (m : Nat), (∀ p ∈ L, p.1 < N) → m < N → cf (L.map fun q => (f q.1, q.2)) (f m) = cf L m
  | [], _, _, _ => rfl
  | q :: r, m, h, hm => by
    have ih := cf_map hf r m (fun p hp => h p (List.mem_cons_of_mem _ hp)) hm
    rw [List.map_cons, cf, cf, ih]
    by_cases e : q.1 = m
    · rw [if_pos e, if_pos (by rw [e])]
    · rw [if_neg e, if_neg fun x => e (hf _ (h q (List.mem_cons_self ..)) _ hm x)]
/-- A sum over a list of places. -/
def sumL (f : Nat → Zw) : List Nat → Zw
  | [] => .zero
  | i :: r => (f i).add (sumL f r)
theorem sumL_perm {f : Nat → Zw} {a b : List Nat} (h : a.Perm b) : sumL f a = sumL f b := by
  induction h with
  | nil => rfl
  | cons x _ ih => rw [sumL, sumL, ih]
  | swap x y l => rw [sumL, sumL, sumL, sumL, add_left']
  | trans _ _ h1 h2 => exact h1.trans h2
theorem sumL_app (f : Nat → Zw) : ∀ a b : List Nat, sumL f (a ++ b) = (sumL f a).add (sumL f b)
  | [], b => (zero_add' _).symm
  | x :: a, b => by rw [List.cons_append, sumL, sumL, sumL_app f a b, add_assoc']
theorem sumL_range (f : Nat → Zw) : ∀ n, sumL f (List.range n) = sumZ n f
  | 0 => rfl
  | n + 1 => by rw [List.range_succ, sumL_app, sumL_range f n, sumZ, sumL, sumL, add_zero']
theorem sumL_map (f : Nat → Zw) (g : Nat → Nat) : ∀ l : List Nat, sumL f (l.map g) = sumL (fun i => f (g i)) l
  | [] => rfl
  | x :: l => by rw [List.map_cons, sumL, sumL, sumL_map f g l]
theorem sumZ_px {p : List Int} (h : permB p = true) (f : Nat → Zw) : sumZ (2 ^ p.length) f = sumZ (2 ^ p.length) fun i => f (px p i) := by
  rw [← sumL_range, ← sumL_range, ← sumL_map f (px p), sumL_perm (px_perm h)]
theorem cl_mov {p : List Int} (hp : permB p = true) : ∀ (L : List Gt), (∀ g ∈ L, gtB g p.length = true) → ∀ i j, i < 2 ^ p.length → j < 2 ^ p.length → cl (2 ^ p.length) (L.map (movG p)) (px p i) (px p j) = cl (2 ^ p.length) L i j
  | [], _, i, j, hi, hj => by
    rw [List.map_nil, cl, cl]
    by_cases e : i = j
    · rw [if_pos e, if_pos (by rw [e])]
    · rw [if_neg e, if_neg fun x => e (px_inj hp hi hj x)]
  | g :: L, h, i, j, hi, hj => by
    have hg := h g (List.mem_cons_self ..)
    have hq : qc (2 ^ p.length) = p.length := by
      have := (permB_iff.1 hp).2
      rcases (show p.length = 1 ∨ p.length = 2 ∨ p.length = 3 ∨ p.length = 4 by omega) with e | e | e | e <;> rw [e] <;> decide
    rw [List.map_cons, cl, cl, sumZ_px hp]
    refine sumZ_congr fun m hm => ?_
    rw [cl_mov hp L (fun g hg => h g (List.mem_cons_of_mem _ hg)) m j hm hj, goes_mov hp hg hi, cf_map (N := 2 ^ p.length) (fun a ha b hb => px_inj hp ha hb) _ _ (fun q hq' => goesG_in (by rw [hq]; exact hg) hi q hq') hm]
/-- The matrix of a permutation. -/
theorem pm_rep {p : List Int} (hp : permB p = true) : Rep (pmM p) (2 ^ p.length) 0 fun i k => if k = px p i then oneZ else .zero := by
  have hl := (permB_iff.1 hp).2
  have hq : qc (2 ^ p.length) = p.length := by
    rcases (show p.length = 1 ∨ p.length = 2 ∨ p.length = 3 ∨ p.length = 4 by omega) with e | e | e | e <;> rw [e] <;> decide
  have hq0 : 0 < qc (2 ^ p.length) := by rw [hq]; omega
  have hM : pmM p = colsM (pmL p) := if_pos hp
  have hL : (pmL p).length = 2 ^ p.length := by rw [pmL, List.length_map, List.length_range]
  have hrow : ∀ i : Nat, i < 2 ^ p.length → (pmL p).getD i [] = (List.replicate (2 ^ p.length) .zero).set (px p i) oneD := fun i hi => by
    have hb := basis_eq hq0 (px_lt hp hi)
    rw [hq] at hb
    have hx : ((px p i : Nat) : Int) = pix p (i : Int) := by
      unfold px
      have := (pix_rg (p := p) (i : Int)).1
      omega
    rw [← hb, hx, pmL, List.getD_eq_getElem?_getD, List.getElem?_map, List.getElem?_range hi]
    rfl
  rw [hM]
  have hent : ∀ k i : Nat, i < 2 ^ p.length → ((pmL p).getD i []).getD k .zero = if px p i = k then oneD else .zero := fun k i hi => by
    rw [hrow i hi, getD_set _ _ _ _ (by rw [List.length_replicate]; exact px_lt hp hi), rep_getD]
  refine ⟨by rw [colsM_len, hL], fun r hr => ?_, fun k hk i hi => ?_⟩
  · obtain ⟨k, -, rfl⟩ := List.mem_map.1 hr
    refine ⟨by rw [col_len, hL], fun x hx => ?_⟩
    obtain ⟨i, hi⟩ := List.getElem?_of_mem hx
    have hiN : i < 2 ^ p.length := by
      rcases Nat.lt_or_ge i (col (pmL p) k).length with h' | h'
      · rwa [col_len, hL] at h'
      · rw [List.getElem?_eq_none h'] at hi; cases hi
    have hx' : x = (col (pmL p) k).getD i .zero := by rw [List.getD_eq_getElem?_getD, hi]; rfl
    rw [hx', col_getD _ _ _ (by omega), hent k i hiN]
    split
    · exact oneD_ok
    · exact zero_ok
  · rw [colsM_getD _ _ (by omega), col_getD _ _ _ (by omega), hent k i hi]
    show rootN 0 (vl (if px p i = k then oneD else .zero)) = rootN 60 (if k = px p i then oneZ else .zero)
    by_cases e : px p i = k
    · rw [if_pos e, if_pos e.symm]; exact vl_one
    · rw [if_neg e, if_neg fun x => e x.symm, vl_zero, rootN_z, rootN_z]
/-- A relabelled circuit performs the same operation on the relabelled qubits. -/
theorem cir_moved {p : List Int} (hp : permB p = true) {L : List Gt} (hg : ∀ g ∈ L, gtB g p.length = true) (h1 : cirB L p.length = true) (h2 : cirB (L.map (movG p)) p.length = true)
    (h3 : mulMB (cirM (L.map (movG p)) p.length) (pmM p) = true) (h4 : mulMB (pmM p) (cirM L p.length) = true) : mulM (cirM (L.map (movG p)) p.length) (pmM p) = mulM (pmM p) (cirM L p.length) := by
  have hl := (permB_iff.1 hp).2
  have ra := cir_rep (by omega) (by omega) h1
  have rb := cir_rep (by omega) (by omega) h2
  have rp := pm_rep hp
  have rx := mul_rep rb rp h3
  have ry := mul_rep rp ra h4
  rw [List.length_map, Nat.add_zero] at rx
  rw [Nat.zero_add] at ry
  refine rx.eq ry fun i hi k hk => ?_
  obtain ⟨k', hk', rfl⟩ := px_onto hp hk
  rw [sumZ_one (fun m => (if m = px p i then oneZ else Zw.zero).mul (cl (2 ^ p.length) (L.map (movG p)) m (px p k'))) (px_lt hp hi) fun m _ hm => by rw [if_neg hm, zero_mul'], if_pos rfl, oneZ_mul, cl_mov hp L hg i k' hi hk']
  rw [sumZ_one (fun m => (cl (2 ^ p.length) L i m).mul (if px p k' = px p m then oneZ else Zw.zero)) hk' fun m hm hne => by rw [if_neg fun e => hne (px_inj hp hk' hm e).symm, mul_zero'], if_pos rfl, mul_oneZ]
end Go.Proofs.Ytadimihfbpkilaa
