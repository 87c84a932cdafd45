/- slices.Repeat of one fraction. -/
import Derived.Test.YtbohbhhgmglcdaaDsC
import Derived.Test.YtbohbhhgmglcdaaDsKb
import Derived.Deep.RegionLaw
import Derived.IntWalk
namespace Go.Proofs.Ytbohbhhgmglcdaa
open Go.RowKit
theorem splice_flat (L A B M : List Dw) (h : A.length = M.length) : splice (flat (L ++ (A ++ B))) (L.length * 5) (flat M) = flat (L ++ (M ++ B)) := by
  have e1 : (flat L ++ (flat A ++ flat B)).take (L.length * 5) = flat L := List.take_left' (flat_len L)
  have e2 : (flat L ++ (flat A ++ flat B)).drop (L.length * 5 + (flat M).length) = flat B := by
    rw [← List.append_assoc]
    exact List.drop_left' (by rw [List.length_append, flat_len, flat_len, flat_len, h])
  unfold splice
  rw [flat_app, flat_app, flat_app, flat_app, e1, e2]
/-- A row of n fractions of which the first m are x, the others zero. -/
def RepRow (w : World) (g n m : Nat) (x : Dw) : Prop := ∃ cur : Array Value, w.heap[g]? = some (.cells cur 33 (0, 0)) ∧ cur.toList = flat (List.replicate m x ++ List.replicate (n - m) .zero)
theorem RepRow.src {w : World} {g n m k : Nat} {x : Dw} (h : RepRow w g n m x) (hk : k ≤ m) : ∀ j v, (flat (List.replicate k x))[j]? = some v → w.cell? ((⟨g, 0, none⟩ : Addr).add j) = some v := by
  obtain ⟨cur, hg, hc⟩ := h
  intro j v hj
  have ha : (⟨g, 0, none⟩ : Addr).add j = ⟨g, j, none⟩ := by
    unfold Addr.add
    by_cases h0 : j = 0
    · simp [h0]
    · simp [h0]
  rw [ha]
  refine cell_at hg _ _ ?_
  rw [← Array.getElem?_toList, hc, show m = k + (m - k) by omega, ← List.replicate_append_replicate, List.append_assoc, flat_app, List.getElem?_append_left]
  · exact hj
  · rcases Nat.lt_or_ge j (flat (List.replicate k x)).length with h' | h'
    · exact h'
    · rw [List.getElem?_eq_none h'] at hj; cases hj
theorem flat_plain : ∀ l : List Dw, ∀ u ∈ flat l, u.oneCell' = true
  | [], u, h => by simp [flat] at h
  | x :: l, u, h => by
    rw [flat, List.mem_append] at h
    rcases h with h | h
    · exact fl_plain x u h
    · exact flat_plain l u h
theorem rep_next {n m k : Nat} {x : Dw} (hk : m + k ≤ n) : splice (flat (List.replicate m x ++ List.replicate (n - m) .zero)) (m * 5) (flat (List.replicate k x)) = flat (List.replicate (m + k) x ++ List.replicate (n - (m + k)) .zero) := by
  have h := splice_flat (List.replicate m x) (List.replicate k .zero) (List.replicate (n - (m + k)) .zero) (List.replicate k x) (by simp)
  rw [List.length_replicate, List.replicate_append_replicate, show k + (n - (m + k)) = n - m by omega, ← List.append_assoc, List.replicate_append_replicate] at h
  exact h
theorem RepRow.grown {w' : World} {g n m k : Nat} {x : Dw} {cur : Array Value} (hc : cur.toList = flat (List.replicate m x ++ List.replicate (n - m) .zero)) (hk : m + k ≤ n)
    (h : w'.heap[g]? = some (.cells (splice cur.toList (m * 5) (flat (List.replicate k x))).toArray 33 (0, 0))) : RepRow w' g n (m + k) x :=
  ⟨_, h, by rw [hc]; exact rep_next hk⟩
theorem src1 {w : World} {g : Nat} {x : Dw} (h : DRow w g [x]) : ∀ j v, (fl x)[j]? = some v → w.cell? ((⟨g, 0, none⟩ : Addr).add j) = some v := by
  intro j v hj
  have hj5 : j < 5 := by
    rcases Nat.lt_or_ge j 5 with h' | h'
    · exact h'
    · rw [List.getElem?_eq_none (by simpa [fl] using h')] at hj; cases hj
  obtain ⟨u, hu, hc⟩ := h.at (j := 0) (x := x) rfl j hj5
  rw [hj] at hu
  cases hu
  have ha : (⟨g, 0, none⟩ : Addr).add j = ⟨g, 0 * 5 + j, none⟩ := by
    unfold Addr.add
    by_cases h0 : j = 0
    · simp [h0]
    · simp [h0]
  rw [ha]; exact hc
attribute [local irreducible] World.cell?
set_option maxRecDepth 100000 in
set_option maxHeartbeats 1600000 in
theorem islRep (x : Dw) (B : Nat) (v : Value) (n : Nat) (w : World) (hv : DSl w B v [x]) (hn : n = 2 ∨ n = 4 ∨ n = 8 ∨ n = 16) :
    Calls Try.prog 61 #[v, .int .i64 n] w fun e w' => ∃ r, e = .returned r ∧ DSl w' w.heap.size r (List.replicate n x) ∧ Below w.heap.size w w' := by
  obtain ⟨i0, hi, hz0, hz1, hz2⟩ := info_parts infoDw
  have h2 : 2 ≤ n := by omega
  have h16 : n ≤ 16 := by omega
  have Hm := Lib.hid (fun w => bmul n w (by omega))
  obtain ⟨a, cap, rfl, hcap, hr⟩ := hv
  obtain ⟨g0, rfl, _, hrow⟩ := hr (by simp)
  have Hrow := Lib.hid hrow
  have Hcap := Lib.hid hcap
  clear hn hr hrow hcap
  simp only [List.length_cons, List.length_nil, Nat.zero_add]
  go_enter Try.func61, Try.ntmps61
  go_wp2_with fail
  refine (Hm.out _).mono ?_
  rintro e w1 ⟨rfl, rfl⟩
  go_wp2_with (first | (at_make; refine wpList_make_full _ rfl _ _ 24 rfl w.heap.size 33 i0 (.agg #[.int .i64 0, .int .i64 0, .int .i64 0, .int .i64 0, .int .i64 0]) 5 Try.underlying24 hi hz0 hz1 .i64 .i64 n n n rfl rfl rfl rfl (by rw [hz2]; omega) (by unfold maxLen; omega) (Nat.le_refl _) ?_))
  intro w1 hown hgrow
  have hb1 : Below w.heap.size w w1 := (Below.refl _ _).grown hgrow (Nat.le_refl _) (fun k hk => by cases hk)
  have hrow1 : RepRow w1 w.heap.size n 0 x := by
    rcases hown.2 with ⟨h, _⟩ | ⟨g, cap, cur, hv, hb, hg, _, _, hs, ht⟩
    · cases h
    · obtain ⟨rfl, rfl⟩ : g = w.heap.size ∧ cap = n := by injection hv with hv _ hv2; injection hv with hv; injection hv with hv; exact ⟨hv.symm, hv2.symm⟩
      refine ⟨cur, hg, ?_⟩
      rw [List.take_of_length_le (by rw [Array.length_toList, hs]; exact Nat.le_refl _), made_flat] at ht
      rw [ht]; rfl
  have Hb1 := Lib.hid hb1
  have Hsrc := Lib.hid (show DRow w1 g0 [x] from Hrow.out.block (hgrow.block g0 Hrow.out.lt (fun h => by cases h)))
  obtain ⟨cur, hg, hcur⟩ := hrow1
  have Hg := Lib.hid hg
  have Hcur := Lib.hid hcur
  have hcs : cur.size = n * 5 := by rw [← Array.length_toList, hcur, flat_len]; simp
  have hsr := src1 Hsrc.out
  clear hown hgrow hb1 hg hcur
  go_wp2_with (first | (refine wpList_copy_N rfl _ _ 24 24 rfl 33 5 Try.underlying24 sizeDw w.heap.size 0 n n ⟨g0, 0, none⟩ 1 cap rfl rfl cur 33 Hg.out (fl x) 1 (Nat.min_eq_left (by omega)).symm rfl hsr (by rw [hcs]; simp [fl]; omega) (fl_plain x) ?_))
  intro w2 hg2 hgrow2
  have Hb2 := Lib.hid (show Below w.heap.size w w2 from Hb1.out.grown hgrow2 Hb1.out.size (fun k hk => by cases hk; exact Nat.le_refl _))
  have Hrow2 := Lib.hid (show RepRow w2 w.heap.size n 1 x from RepRow.grown (m := 0) (k := 1) Hcur.out (by omega) hg2)
  clear hg2 hgrow2 Hg Hcur hcs hsr Hsrc Hrow Hb1
  go_wp2_with fail
  go_loopg [8] (n - 1) (fun k i wr => ∃ m : Nat, k = n - m ∧ 1 ≤ m ∧ m ≤ n ∧ i = .int .i64 m ∧ Hid (RepRow wr w.heap.size n m x) ∧ Hid (Below w.heap.size w wr))
  case atStart => exact ⟨1, rfl, Nat.le_refl _, by omega, rfl, Hrow2, Hb2⟩
  case round =>
    obtain ⟨m, rfl, hm1, hmn, rfl, Hrow, Hb⟩ := hrel
    by_cases hlt : m < n
    · obtain ⟨cur, hg, hcur⟩ := Hrow.out
      obtain ⟨k, hk⟩ : ∃ k, k = Nat.min m (n - m) := ⟨_, rfl⟩
      have hk1 : 1 ≤ k := by rw [hk]; exact Nat.le_min.2 ⟨hm1, by omega⟩
      have hk2 : m + k ≤ n := by have := Nat.min_le_right m (n - m); have e : k ≤ n - m := by rw [hk]; exact this
                                 omega
      have hk3 : k ≤ m := by rw [hk]; exact Nat.min_le_left _ _
      have Hk := Lib.hid hk
      have Hg := Lib.hid hg
      have Hcur := Lib.hid hcur
      have hcs : cur.size = n * 5 := by rw [← Array.length_toList, hcur, flat_len]; simp; omega
      have hsr := RepRow.src (w := wr.drew) (show RepRow wr.drew w.heap.size n m x from Hrow.out) hk3
      have hne : ¬ n = m := by omega
      clear hk hg hcur
      go_upto_region 9 with fail
      go_region_law (refine step_copy_N (by rfl) (.tmp 41) (.tmp 44) 24 24 (by rfl) 33 5 Try.underlying24 sizeDw w.heap.size (m * 5) (n - m) (n - m) ⟨w.heap.size, 0, none⟩ m n (by go_simp) (by go_simp) cur 33 Hg.out (flat (List.replicate k x)) k Hk.out (by rw [flat_len, List.length_replicate]) hsr (by rw [hcs, flat_len, List.length_replicate]; omega) (flat_plain _) ?_; intro w3 hg3 hgrow3)
      have Hb3 := Lib.hid (show Below w.heap.size w w3 from (Hb.out.drew).grown hgrow3 Hb.out.size (fun k hk => by cases hk; exact Nat.le_refl _))
      have Hrow3 := Lib.hid (show RepRow w3 w.heap.size n (m + k) x from RepRow.grown Hcur.out hk2 hg3)
      clear hg3 hgrow3 hsr hcs
      go_wp2_with fail
      go_roundg (n - (m + k))
      case measure => omega
      case rel => exact ⟨m + k, rfl, by omega, hk2, by rw [IntWalk.i64_in _ (by omega)]; go_num, Hrow3, Hb3⟩
    · obtain rfl : m = n := by omega
      have Hrow' := Hrow
      go_wp2_with fail
      go_ret
      obtain ⟨cur, hg, hcur⟩ := Hrow'.out
      refine ⟨_, rfl, DSl.mk (by simp) (Nat.le_refl _) (Nat.le_refl _) ⟨cur, hg, ?_⟩, Hb.out⟩
      rw [hcur, List.take_of_length_le (by rw [flat_len]; simp)]
      simp
end Go.Proofs.Ytbohbhhgmglcdaa
