/- The laws' own helpers over circuits: size, copy, equality, mark, hold. -/
import Derived.Test.YtckfklpgnneodaaBaseB09
import Derived.Test.YtckfklpgnneodaaBaseB10
namespace Go.Proofs.Ytckfklpgnneodaa
open Go.RowKit
theorem marksG_at {k n j : Nat} (h : j < n) : (marksG k n)[j]? = some (mk4 (k + j * 4)) := by
  rw [marksG, List.getElem?_map, List.getElem?_range h]; rfl
theorem set2_at {w : World} {b : Nat} {z0 z1 u0 u1 : Value} {t : TypeId} (h : w.heap[b]? = some (.cells #[z0, z1] t (0, 0))) : ((w.setCell ⟨b, 0, none⟩ u0).setCell ⟨b, 1, none⟩ u1).heap[b]? = some (.cells #[u0, u1] t (0, 0)) := by
  have h1 := heap_set h 0 u0
  exact heap_set h1 1 u1
attribute [local irreducible] World.cell?
set_option maxRecDepth 100000 in
set_option maxHeartbeats 3200000 in
theorem heldGs (B k n : Nat) (v : Value) (w : World) (hv : gtE.Sl w B v (marksG k n)) (hm : n ≤ 1048576) (hk : k ≤ 1073741824) :
    Calls Try.prog 53 #[v, .int .i64 k] w fun e w' => e = .returned (.int .i64 ((k + n * 4 : Nat) : Int)) ∧ w = w' := by
  obtain ⟨a, cap, rfl, hcap, hr⟩ := hv
  rw [marksG_len] at hcap hr ⊢
  have Hr := Lib.hid hr
  clear hr
  go_enter Try.func53, Try.ntmps53
  go_wp2_with fail
  go_loopw [1, 5] (fun m i wr => ∃ j : Nat, j ≤ n ∧ m = .int .i64 ((k + j * 4 : Nat) : Int) ∧ i = .int .i64 j ∧ w = wr) (fun _ i _ => n - (intOf i).toNat)
  case atStart => exact ⟨0, Nat.zero_le _, by simp, rfl, rfl⟩
  case round =>
    obtain ⟨j, hj, rfl, rfl, rfl⟩ := hrel
    by_cases hlt : j < n
    · obtain ⟨g, rfl, hB, hrow⟩ := Hr.out (by omega)
      obtain ⟨c0, c1, c2, c3⟩ := GRow.cells hrow (marksG_at hlt)
      have m0 : (mk4 (k + j * 4)).k = (k : Int) + j * 4 := by simp [mk4]
      have m1 : (mk4 (k + j * 4)).a = (k : Int) + j * 4 + 1 := by simp [mk4]
      have m2 : (mk4 (k + j * 4)).b = (k : Int) + j * 4 + 1 + 1 := by simp [mk4]; omega
      have m3 : (mk4 (k + j * 4)).c = (k : Int) + j * 4 + 1 + 1 + 1 := by simp [mk4]; omega
      rw [m0] at c0; rw [m1] at c1; rw [m2] at c2; rw [m3] at c3
      clear m0 m1 m2 m3 hrow
      go_wp2_with fail
      go_roundw
      case rel => exact ⟨j + 1, by omega, by go_num, by go_num, trivial⟩
      case measure => simp [intOf]; omega
    · obtain rfl : j = n := by omega
      go_wp2_with fail
      go_ret
      exact ⟨rfl, rfl⟩
set_option maxRecDepth 100000 in
set_option maxHeartbeats 1600000 in
theorem szCi (n : Int) (a0 : Option Addr) (m cap : Nat) (l : Int) (w : World) (hm : m ≤ maxLen) (l0 : 0 ≤ l) (l1 : l ≤ 1048576) :
    Calls Try.prog 17 #[.agg #[.int .i64 n, .slice a0 m cap], .int .i64 l] w fun e w' => e = .returned (.int .i64 (if (m : Int) ≤ l then l - m else -1)) ∧ Below w.heap.size w w' := by
  have HX := Lib.hid (heap_alloc_new w (.cells #[.int .i64 n, .slice a0 m cap] 34))
  obtain ⟨c0, c1⟩ := blk_cells2 HX.out
  have hxl := lt_of_block HX.out
  by_cases h : (m : Int) ≤ l
  · rw [if_pos h]
    have H := Lib.hid (fun W => szGfit a0 m cap l W h l0 l1)
    have h0 : ¬ (l - (m : Int) < 0) := by omega
    go_enter Try.func17, Try.ntmps17
    go_wp2_with fail
    refine (H.out _).mono ?_
    rintro e w1 ⟨rfl, rfl⟩
    go_wp2_with fail
    go_ret
    exact ⟨rfl, by go_grown⟩
  · rw [if_neg h]
    have H := Lib.hid (fun W => szGbig a0 m cap l W hm h l0 l1)
    go_enter Try.func17, Try.ntmps17
    go_wp2_with fail
    refine (H.out _).mono ?_
    rintro e w1 ⟨rfl, rfl⟩
    go_wp2_with fail
    go_ret
    exact ⟨rfl, by go_grown⟩
theorem szCiFit (n : Int) (a0 : Option Addr) (m cap : Nat) (l : Int) (w : World) (h : (m : Int) ≤ l) (l0 : 0 ≤ l) (l1 : l ≤ 1048576) :
    Calls Try.prog 17 #[.agg #[.int .i64 n, .slice a0 m cap], .int .i64 l] w fun e w' => e = .returned (.int .i64 (l - m)) ∧ Below w.heap.size w w' := by
  have h2 := szCi n a0 m cap l w (by unfold maxLen; omega) l0 l1
  rwa [if_pos h] at h2
theorem szCiBig (n : Int) (a0 : Option Addr) (m cap : Nat) (l : Int) (w : World) (hn : m ≤ maxLen) (h : ¬ (m : Int) ≤ l) (l0 : 0 ≤ l) (l1 : l ≤ 1048576) :
    Calls Try.prog 17 #[.agg #[.int .i64 n, .slice a0 m cap], .int .i64 l] w fun e w' => e = .returned (.int .i64 (-1)) ∧ Below w.heap.size w w' := by
  have h2 := szCi n a0 m cap l w hn l0 l1
  rwa [if_neg h] at h2
set_option maxRecDepth 100000 in
set_option maxHeartbeats 3200000 in
theorem toCi (n : Int) (a0 : Option Addr) (cap B : Nat) (l : List Gt) (w : World) (hin : GsIn w B a0 l) (hB : B ≤ w.heap.size) (hn2 : l.length ≤ 1048576) :
    Calls Try.prog 19 #[.agg #[.int .i64 n, .slice a0 l.length cap]] w fun e w' => ∃ v, e = .returned (.agg #[.int .i64 n, v]) ∧ gtE.Sl w' w.heap.size v l ∧ Below w.heap.size w w' := by
  have H := Lib.hid (fun W (h : Below w.heap.size w W) => toGs a0 cap w.heap.size l W ((hin.mono hB).below h) h.size hn2)
  have HX := Lib.hid (alloc_blk (.cells #[.int .i64 0, .slice none 0 0] 26) (alloc_blk (.cells #[.int .i64 0, .slice none 0 0] 26) (heap_alloc_new w (.cells #[.int .i64 n, .slice a0 l.length cap] 34))))
  have HR := Lib.hid (show (((w.alloc (.cells #[.int .i64 n, .slice a0 l.length cap] 34)).alloc (.cells #[.int .i64 0, .slice none 0 0] 26)).alloc (.cells #[.int .i64 n, .slice none 0 0] 26)).heap[w.heap.size + 1]? = some (.cells #[.int .i64 0, .slice none 0 0] 26 (0, 0)) by
    have h := alloc_blk (.cells #[.int .i64 n, .slice none 0 0] 26) (heap_alloc_new (w.alloc (.cells #[.int .i64 n, .slice a0 l.length cap] 34)) (.cells #[.int .i64 0, .slice none 0 0] 26))
    simpa using h)
  have HO := Lib.hid (show (((w.alloc (.cells #[.int .i64 n, .slice a0 l.length cap] 34)).alloc (.cells #[.int .i64 0, .slice none 0 0] 26)).alloc (.cells #[.int .i64 n, .slice none 0 0] 26)).heap[w.heap.size + 2]? = some (.cells #[.int .i64 n, .slice none 0 0] 26 (0, 0)) by
    have h := heap_alloc_new ((w.alloc (.cells #[.int .i64 n, .slice a0 l.length cap] 34)).alloc (.cells #[.int .i64 0, .slice none 0 0] 26)) (.cells #[.int .i64 n, .slice none 0 0] 26)
    simpa using h)
  obtain ⟨c0, c1⟩ := blk_cells2 HX.out
  have hxl := lt_of_block HX.out
  clear hin
  go_enter Try.func19, Try.ntmps19
  go_wp2_with fail
  refine (H.out _ (by go_grown)).mono ?_
  rintro e w1 ⟨v, rfl, hd, hb1⟩
  have HR1 := Lib.hid (below_blk hb1 (lt_of_block HR.out) HR.out)
  have HO1 := Lib.hid (below_blk hb1 (lt_of_block HO.out) HO.out)
  have Hb1 := Lib.hid (show Below w.heap.size w w1 from below_up (by go_grown) hb1 (by simp; omega))
  have Hd := Lib.hid (hd.mono (show w.heap.size + 3 ≤ _ by simp))
  have hs1 := hb1.size
  simp at hs1
  obtain ⟨p, c, rfl, -, -⟩ := hd
  obtain ⟨o0, o1⟩ := blk_cells2 HO1.out
  obtain ⟨r0, r1⟩ := blk_cells2 HR1.out
  have hol := lt_of_block HO1.out
  have hrl := lt_of_block HR1.out
  have fO := fun o => free_at HO1.out o
  have fR := fun o => free_at HR1.out o
  clear c0 c1 hxl hb1 HX HR HO H
  go_wp2_with fail
  obtain ⟨k0, k1⟩ := blk_cells2 (set2_at (u0 := .int .i64 n) (u1 := .slice p l.length c) (set1_blk (g := w.heap.size + 1 + 1) (o := 1) (u := .slice p l.length c) (by omega) HR1.out))
  refine bodyPost_ret (v := .agg #[.int .i64 n, .slice p l.length c]) (by simp only [results, Try.results19]; simp [go_sem, k0, k1]) rfl ⟨_, rfl, ?_, ?_⟩
  · exact (sl_set1 (sl_set1 (sl_set1 Hd.out (by omega)) (by omega)) (by omega)).mono (by omega)
  · have := Hb1.out
    go_grown
set_option maxRecDepth 100000 in
set_option maxHeartbeats 3200000 in
theorem eqCi (B C : Nat) (n : Int) (v u : Value) (l : List Gt) (w : World) (hv : gtE.Sl w B v l) (hu : gtE.Sl w C u l) (hm : l.length ≤ 1048576) :
    Calls Try.prog 21 #[.agg #[.int .i64 n, v], .agg #[.int .i64 n, u]] w fun e w' => e = .returned (.bool true) ∧ Below w.heap.size w w' := by
  have H := Lib.hid (fun W (h1 : gtE.Sl W B v l) (h2 : gtE.Sl W C u l) => eqGs B C v u l W h1 h2 hm)
  have Hb0 := Lib.hid (show Below w.heap.size w ((w.alloc (.cells #[.int .i64 n, v] 26)).alloc (.cells #[.int .i64 n, u] 26)) by go_grown)
  have HX := Lib.hid (alloc_blk (.cells #[.int .i64 n, u] 26) (heap_alloc_new w (.cells #[.int .i64 n, v] 26)))
  have HY := Lib.hid (show ((w.alloc (.cells #[.int .i64 n, v] 26)).alloc (.cells #[.int .i64 n, u] 26)).heap[w.heap.size + 1]? = some (.cells #[.int .i64 n, u] 26 (0, 0)) by
    simpa using heap_alloc_new (w.alloc (.cells #[.int .i64 n, v] 26)) (.cells #[.int .i64 n, u] 26))
  have Hv := Lib.hid (hv.below Hb0.out)
  have Hu := Lib.hid (hu.below Hb0.out)
  obtain ⟨c0, c1⟩ := blk_cells2 HX.out
  obtain ⟨d0, d1⟩ := blk_cells2 HY.out
  have hxl := lt_of_block HX.out
  have hyl := lt_of_block HY.out
  have hnn : (n != n) = false := by simp
  obtain ⟨pa, ca, rfl, -, -⟩ := hv
  obtain ⟨pb, cb, rfl, -, -⟩ := hu
  go_enter Try.func21, Try.ntmps21
  go_wp2_with fail
  refine (H.out _ Hv.out Hu.out).mono ?_
  rintro e w1 ⟨rfl, hb1⟩
  have Hb1 := Lib.hid (below_nx Hb0.out hb1)
  clear hb1
  go_wp2_with fail
  go_ret
  exact ⟨rfl, Hb1.out⟩
theorem mid_alloc {B C : Nat} {w w1 : World} {o : Obj} (h : Mid B C (w.alloc o) w1) (hB : B ≤ w.heap.size) : Mid B C w w1 :=
  ⟨((Below.refl B w).alloc hB o).trans h.1, fun b hb hl => (h.2 b hb (by simp; omega)).trans (Below.heap_alloc _ _ _ hl)⟩
set_option maxRecDepth 100000 in
set_option maxHeartbeats 1600000 in
theorem markCi (B C k : Nat) (n : Int) (v : Value) (l : List Gt) (w : World) (hv : gtE.Sc w B C v l) (hB : B ≤ w.heap.size) (hm : l.length ≤ 1048576) (hk : k ≤ 1073741824) :
    Calls Try.prog 27 #[.agg #[.int .i64 n, v], .int .i64 k] w fun e w' => e = .returned (.int .i64 ((k + l.length * 4 : Nat) : Int)) ∧ gtE.Sc w' B C v (marksG k l.length) ∧ Mid B C w w' := by
  have HX := Lib.hid (heap_alloc_new w (.cells #[.int .i64 n, v] 26))
  have H := Lib.hid (markGs B C k v l _ (hv.below ((Below.refl _ _).alloc (Nat.le_refl _) (.cells #[.int .i64 n, v] 26))) hm hk)
  obtain ⟨c0, c1⟩ := blk_cells2 HX.out
  have hxl := lt_of_block HX.out
  obtain ⟨pa, ca, rfl, -, -⟩ := id hv
  go_enter Try.func27, Try.ntmps27
  go_wp2_with fail
  refine (H.out).mono ?_
  rintro e w1 ⟨rfl, hd, hM⟩
  have HM := Lib.hid (mid_alloc hM hB)
  have Hd := Lib.hid hd
  clear hM hd c0 c1
  go_wp2_with fail
  go_ret
  exact ⟨rfl, Hd.out, HM.out⟩
set_option maxRecDepth 100000 in
set_option maxHeartbeats 1600000 in
theorem heldCi (B k m : Nat) (n : Int) (v : Value) (w : World) (hv : gtE.Sl w B v (marksG k m)) (hm : m ≤ 1048576) (hk : k ≤ 1073741824) :
    Calls Try.prog 34 #[.agg #[.int .i64 n, v], .int .i64 k] w fun e w' => e = .returned (.int .i64 ((k + m * 4 : Nat) : Int)) ∧ Below w.heap.size w w' := by
  have HX := Lib.hid (heap_alloc_new w (.cells #[.int .i64 n, v] 26))
  have H := Lib.hid (heldGs B k m v _ (hv.below ((Below.refl _ _).alloc (Nat.le_refl _) (.cells #[.int .i64 n, v] 26))) hm hk)
  obtain ⟨c0, c1⟩ := blk_cells2 HX.out
  have hxl := lt_of_block HX.out
  obtain ⟨pa, ca, rfl, -, -⟩ := id hv
  have h0 : ¬ (((k + m * 4 : Nat) : Int) < 0) := by omega
  go_enter Try.func34, Try.ntmps34
  go_wp2_with fail
  refine (H.out).mono ?_
  rintro e w1 ⟨rfl, rfl⟩
  go_wp2_with fail
  go_ret
  exact ⟨rfl, by go_grown⟩
theorem markCi1 (B C : Nat) (n : Int) (v : Value) (l : List Gt) (w : World) (hv : gtE.Sc w B C v l) (hB : B ≤ w.heap.size) (hm : l.length ≤ 1048576) :
    Calls Try.prog 27 #[.agg #[.int .i64 n, v], .int .i64 1] w fun e w' => e = .returned (.int .i64 (1 + (l.length : Int) * 4)) ∧ gtE.Sc w' B C v (marksG 1 l.length) ∧ Mid B C w w' := by
  refine (markCi B C 1 n v l w hv hB hm (by omega)).mono ?_
  rintro e w1 ⟨rfl, h⟩
  exact ⟨by simp, h⟩
theorem heldCi1 (B m : Nat) (n : Int) (v : Value) (w : World) (hv : gtE.Sl w B v (marksG 1 m)) (hm : m ≤ 1048576) :
    Calls Try.prog 34 #[.agg #[.int .i64 n, v], .int .i64 1] w fun e w' => e = .returned (.int .i64 (1 + (m : Int) * 4)) ∧ Below w.heap.size w w' := by
  refine (heldCi B 1 m n v w hv hm (by omega)).mono ?_
  rintro e w1 ⟨rfl, h⟩
  exact ⟨by simp, h⟩
end Go.Proofs.Ytckfklpgnneodaa
