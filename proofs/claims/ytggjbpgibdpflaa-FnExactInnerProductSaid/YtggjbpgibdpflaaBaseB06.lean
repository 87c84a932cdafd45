/- BaseB06: several of our texts in one: DsE DsN DsKr DsG VcB DsH. -/
import Derived.Test.YtggjbpgibdpflaaBaseB09
import Derived.Test.YtggjbpgibdpflaaBaseB05
import Derived.Test.YtggjbpgibdpflaaDsM
import Derived.Test.YtggjbpgibdpflaaDsD
import Derived.Test.YtggjbpgibdpflaaDsC
import Derived.Deep.RegionLaw
import Derived.IntWalk
import Derived.Test.YtggjbpgibdpflaaBaseB18
namespace Go.Proofs.Ytggjbpgibdpflaa
open Go.RowKit
theorem below_dn {B : Nat} {a w : World} (h : Below B a w) (n : Nat) : Below B a (w.drewN n) := h.trans ⟨rfl, rfl, rfl, Nat.le_refl _, fun _ _ => rfl⟩
theorem eq_take {a b : List Dw} (_ : a.length = b.length) {j : Nat} {x y : Dw} (hx : a[j]? = some x) (hy : b[j]? = some y) (h : a.take j = b.take j) (hxy : x = y) : a.take (j + 1) = b.take (j + 1) := by
  rw [List.take_add_one, List.take_add_one, h, hx, hy, hxy]
attribute [local irreducible] World.cell?
set_option maxRecDepth 100000 in
set_option maxHeartbeats 1600000 in
theorem sequalSt (B C : Nat) (v u : Value) (a b : List Dw) (w : World) (hv : DSl w B v a) (hu : DSl w C u b) (hm : a.length ≤ 1048576) (_ : b.length ≤ 1048576) :
    Calls Try.prog 28 #[v, u] w fun e w' => e = .returned (.bool (decide (a = b))) ∧ Below w.heap.size w w' := by
  obtain ⟨p, cap, rfl, hcap, hr⟩ := hv
  obtain ⟨p', cap', rfl, hcap', hr'⟩ := hu
  have Hr := Lib.hid hr
  have Hr' := Lib.hid hr'
  clear hr hr'
  by_cases hl : a.length = b.length
  · have hd : ((a.length : Int) == b.length) = true := by simp; omega
    have hd2 : ((a.length : Int) != b.length) = false := by simp; omega
    obtain ⟨T, hT⟩ : ∃ T, T = decide (a = b) := ⟨_, rfl⟩
    rw [← hT]
    have HT := Lib.hid hT
    clear hT
    go_enter Try.func28, Try.ntmps28
    go_wp2_with fail
    go_loopw [5] (fun i wr => ∃ j : Nat, j ≤ a.length ∧ i = .int .i64 j ∧ Hid (a.take j = b.take j) ∧ Hid (Below w.heap.size w wr)) (fun i _ => a.length - (intOf i).toNat)
    case atStart => exact ⟨0, Nat.zero_le _, rfl, Lib.hid rfl, Below.refl _ _⟩
    case round =>
      obtain ⟨j, hj, rfl, Heq, Hb⟩ := hrel
      by_cases hlt : j < a.length
      · obtain ⟨g, rfl, _, hrow⟩ := Hr.out (by omega)
        obtain ⟨g', rfl, _, hrow'⟩ := Hr'.out (by omega)
        obtain ⟨x, hx⟩ : ∃ x, a[j]? = some x := ⟨a[j], List.getElem?_eq_getElem hlt⟩
        obtain ⟨y, hy⟩ : ∃ y, b[j]? = some y := ⟨b[j], List.getElem?_eq_getElem (by omega)⟩
        have r1 := hrow.below Hb.out hrow.lt
        have r2 := hrow'.below Hb.out hrow'.lt
        obtain ⟨c0, c1, c2, c3, c4⟩ := r1.cells hx
        obtain ⟨d0, d1, d2, d3, d4⟩ := r2.cells hy
        have hne := neD x y
        have Hx := Lib.hid hx
        have Hy := Lib.hid hy
        clear hx hy r1 r2 hrow hrow'
        go_upto_region 6 with fail
        by_cases hxy : x = y
        · rw [eqDB_iff.2 hxy] at hne
          have Hxy := Lib.hid hxy
          clear hxy
          go_quiet (fail)
          go_wp2_with fail
          go_roundw
          case rel => exact ⟨j + 1, by omega, by go_num, Lib.hid (eq_take hl Hx.out Hy.out Heq.out Hxy.out), below_dn Hb.out _⟩
          case measure => simp [intOf]; omega
        · rw [eqDB_no hxy] at hne
          have hF : a ≠ b := fun h => hxy (by have h1 := Hx.out; rw [h, Hy.out] at h1; injection h1 with h1; exact h1.symm)
          obtain rfl : T = false := HT.out.trans (decide_eq_false hF)
          clear hF hxy
          go_quiet (fail)
          go_wp2_with fail
          go_ret
          exact ⟨rfl, below_dn Hb.out _⟩
      · obtain rfl : j = a.length := by omega
        have hE := Heq.out
        rw [List.take_length, List.take_of_length_le (by omega)] at hE
        obtain rfl : T = true := HT.out.trans (decide_eq_true hE)
        go_wp2_with fail
        go_ret
        exact ⟨rfl, Hb.out⟩
  · have hd : ((a.length : Int) == b.length) = false := by simp; omega
    have hd2 : ((a.length : Int) != b.length) = true := by simp; omega
    rw [decide_eq_false (fun h => hl (by rw [h]))]
    go_enter Try.func28, Try.ntmps28
    go_wp2_with fail
    go_ret
    exact ⟨rfl, Below.refl _ _⟩
end Go.Proofs.Ytggjbpgibdpflaa
namespace Go.Proofs.Ytggjbpgibdpflaa
open Go.RowKit
theorem DsIn.mono {w : World} {B C : Nat} {a0 : Option Addr} {l : List Dw} (h : DsIn w B a0 l) (hC : B ≤ C) : DsIn w C a0 l :=
  ⟨h.1, h.2.1, fun h0 => by obtain ⟨b, off, e, hlt, hc⟩ := h.2.2 h0; exact ⟨b, off, e, by omega, hc⟩⟩
theorem DsIn.eb {w : World} {B : Nat} {a0 : Option Addr} {l : List Dw} (h : DsIn w B a0 l) : Eb l := h.2.1
theorem toDsB (a0 : Option Addr) (cap B : Nat) (l : List Dw) (w : World) (hin : DsIn w B a0 l) (hB : B ≤ w.heap.size) (hn2 : l.length ≤ 1048576) :
    Calls Try.prog 45 #[.slice a0 l.length cap] w fun e w' => ∃ v, e = .returned v ∧ DSl w' w.heap.size v l ∧ Below w.heap.size w w' := toDs a0 cap l w (hin.mono hB) hn2
theorem szFit (a0 : Option Addr) (n cap : Nat) (l : Int) (w : World) (h : (n : Int) ≤ l) (l0 : 0 ≤ l) (l1 : l ≤ 1048576) :
    Calls Try.prog 43 #[.slice a0 n cap, .int .i64 l] w fun e w' => e = .returned (.int .i64 (l - n)) ∧ w = w' := by
  have h2 := szDs a0 n cap l w (by unfold maxLen; omega) l0 l1
  rwa [if_pos h] at h2
theorem szBig (a0 : Option Addr) (n cap : Nat) (l : Int) (w : World) (hn : n ≤ maxLen) (h : ¬ (n : Int) ≤ l) (l0 : 0 ≤ l) (l1 : l ≤ 1048576) :
    Calls Try.prog 43 #[.slice a0 n cap, .int .i64 l] w fun e w' => e = .returned (.int .i64 (-1)) ∧ w = w' := by
  have h2 := szDs a0 n cap l w hn l0 l1
  rwa [if_neg h] at h2
theorem mark1 (B C : Nat) (v : Value) (l : List Dw) (w : World) (hv : DSc w B C v l) (hm : l.length ≤ 1048576) :
    Calls Try.prog 47 #[v, .int .i64 1] w fun e w' => e = .returned (.int .i64 (1 + (l.length : Int) * 5)) ∧ DSc w' B C v (marks 1 l.length) ∧ Mid B C w w' := by
  refine (markDs B C 1 v l w hv hm (by omega)).mono ?_
  rintro e w1 ⟨rfl, h⟩
  exact ⟨by simp, h⟩
theorem mark2 (B C m : Nat) (v : Value) (l : List Dw) (w : World) (hv : DSc w B C v l) (hm : l.length ≤ 1048576) (hm' : m ≤ 1048576) :
    Calls Try.prog 47 #[v, .int .i64 (1 + (m : Int) * 5)] w fun e w' => e = .returned (.int .i64 (1 + (m : Int) * 5 + (l.length : Int) * 5)) ∧ DSc w' B C v (marks (1 + m * 5) l.length) ∧ Mid B C w w' := by
  have h := markDs B C (1 + m * 5) v l w hv hm (by omega)
  rw [show ((1 + m * 5 : Nat) : Int) = 1 + (m : Int) * 5 by simp] at h
  refine h.mono ?_
  rintro e w1 ⟨rfl, h⟩
  exact ⟨by simp, h⟩
theorem held1 (B n : Nat) (v : Value) (w : World) (hv : DSl w B v (marks 1 n)) (hm : n ≤ 1048576) :
    Calls Try.prog 48 #[v, .int .i64 1] w fun e w' => e = .returned (.int .i64 (1 + (n : Int) * 5)) ∧ w = w' := by
  refine (heldDs B 1 n v w hv hm (by omega)).mono ?_
  rintro e w1 ⟨rfl, h⟩
  exact ⟨by simp, h⟩
theorem mid_low {B C : Nat} {a w w' : World} (h : Below a.heap.size a w) (m : Mid B C w w') (hB : a.heap.size ≤ B) : Below a.heap.size a w' := h.trans (m.1.mono hB)
theorem sscaleC (C B : Nat) (v : Value) (l : List Dw) (x : Dw) (w : World) (hv : DSl w B v l) (hm : l.length ≤ 1048576) (hC : C ≤ w.heap.size) :
    Calls Try.prog 66 #[v, (.agg #[.int .i64 x.n.a, .int .i64 x.n.b, .int .i64 x.n.c, .int .i64 x.n.d, .int .i64 x.e])] w fun e w' => (∃ u, e = .returned (.tuple #[u, .bool (scaleB l x)]) ∧ DSl w' C u (scaleL l x)) ∧ Below w.heap.size w w' := by
  refine (sscale B v l x w hv hm).mono ?_
  rintro e w1 ⟨⟨u, rfl, hd⟩, hb⟩
  exact ⟨⟨u, rfl, hd.mono hC⟩, hb⟩
theorem sequal_self (B C : Nat) (v u : Value) (a : List Dw) (w : World) (hv : DSl w B v a) (hu : DSl w C u a) (hm : a.length ≤ 1048576) :
    Calls Try.prog 28 #[v, u] w fun e w' => e = .returned (.bool true) ∧ Below w.heap.size w w' := by
  have h := sequalSt B C v u a a w hv hu hm hm
  rwa [decide_eq_true rfl] at h
end Go.Proofs.Ytggjbpgibdpflaa
namespace Go.Proofs.Ytggjbpgibdpflaa
open Go.RowKit
theorem splice_flat (L A B M : List Dw) (h : A.length = M.length) : splice (flat (L ++ (A ++ B))) (L.length * 5) (flat M) = flat (L ++ (M ++ B)) := by
  have e1 : (flat L ++ (flat A ++ flat B)).take (L.length * 5) = flat L := List.take_left' (flat_len L)
  have e2 : (flat L ++ (flat A ++ flat B)).drop (L.length * 5 + (flat M).length) = flat B := by
    rw [← List.append_assoc]
    exact List.drop_left' (by rw [List.length_append, flat_len, flat_len, flat_len, h])
  unfold splice
  rw [flat_app, flat_app, flat_app, flat_app, e1, e2]
/-- A row of n fractions of which the first m are x, the others zero. -/
def RepRow (w : World) (g n m : Nat) (x : Dw) : Prop := ∃ cur : Array Value, w.heap[g]? = some (.cells cur 60 (0, 0)) ∧ cur.toList = flat (List.replicate m x ++ List.replicate (n - m) .zero)
theorem RepRow.src {w : World} {g n m k : Nat} {x : Dw} (h : RepRow w g n m x) (hk : k ≤ m) : ∀ j v, (flat (List.replicate k x))[j]? = some v → w.cell? ((⟨g, 0, none⟩ : Addr).add j) = some v := by
  obtain ⟨cur, hg, hc⟩ := h
  intro j v hj
  have ha : (⟨g, 0, none⟩ : Addr).add j = ⟨g, j, none⟩ := by
    unfold Addr.add
    by_cases h0 : j = 0
    · simp [h0]
    · simp [h0]
  rw [ha]
  refine cell_at hg _ _ ?_
  rw [← Array.getElem?_toList, hc, show m = k + (m - k) by omega, ← List.replicate_append_replicate, List.append_assoc, flat_app, List.getElem?_append_left]
  · exact hj
  · rcases Nat.lt_or_ge j (flat (List.replicate k x)).length with h' | h'
    · exact h'
    · rw [List.getElem?_eq_none h'] at hj; cases hj
theorem flat_plainK : ∀ l : List Dw, ∀ u ∈ flat l, u.oneCell' = true
  | [], u, h => by simp [flat] at h
  | x :: l, u, h => by
    rw [flat, List.mem_append] at h
    rcases h with h | h
    · exact fl_plain x u h
    · exact flat_plainK l u h
theorem rep_next {n m k : Nat} {x : Dw} (hk : m + k ≤ n) : splice (flat (List.replicate m x ++ List.replicate (n - m) .zero)) (m * 5) (flat (List.replicate k x)) = flat (List.replicate (m + k) x ++ List.replicate (n - (m + k)) .zero) := by
  have h := splice_flat (List.replicate m x) (List.replicate k .zero) (List.replicate (n - (m + k)) .zero) (List.replicate k x) (by simp)
  rw [List.length_replicate, List.replicate_append_replicate, show k + (n - (m + k)) = n - m by omega, ← List.append_assoc, List.replicate_append_replicate] at h
  exact h
theorem RepRow.grown {w' : World} {g n m k : Nat} {x : Dw} {cur : Array Value} (hc : cur.toList = flat (List.replicate m x ++ List.replicate (n - m) .zero)) (hk : m + k ≤ n)
    (h : w'.heap[g]? = some (.cells (splice cur.toList (m * 5) (flat (List.replicate k x))).toArray 60 (0, 0))) : RepRow w' g n (m + k) x :=
  ⟨_, h, by rw [hc]; exact rep_next hk⟩
theorem src1 {w : World} {g : Nat} {x : Dw} (h : DRow w g [x]) : ∀ j v, (fl x)[j]? = some v → w.cell? ((⟨g, 0, none⟩ : Addr).add j) = some v := by
  intro j v hj
  have hj5 : j < 5 := by
    rcases Nat.lt_or_ge j 5 with h' | h'
    · exact h'
    · rw [List.getElem?_eq_none (by simpa [fl] using h')] at hj; cases hj
  obtain ⟨u, hu, hc⟩ := h.at (j := 0) (x := x) rfl j hj5
  rw [hj] at hu
  cases hu
  have ha : (⟨g, 0, none⟩ : Addr).add j = ⟨g, 0 * 5 + j, none⟩ := by
    unfold Addr.add
    by_cases h0 : j = 0
    · simp [h0]
    · simp [h0]
  rw [ha]; exact hc
attribute [local irreducible] World.cell?
set_option maxRecDepth 100000 in
set_option maxHeartbeats 1600000 in
theorem islRep (x : Dw) (B : Nat) (v : Value) (n : Nat) (w : World) (hv : DSl w B v [x]) (hn : n = 2 ∨ n = 4 ∨ n = 8 ∨ n = 16) :
    Calls Try.prog 102 #[v, .int .i64 n] w fun e w' => ∃ r, e = .returned r ∧ DSl w' w.heap.size r (List.replicate n x) ∧ Below w.heap.size w w' := by
  obtain ⟨i0, hi, hz0, hz1, hz2⟩ := info_parts infoDw
  have h2 : 2 ≤ n := by omega
  have h16 : n ≤ 16 := by omega
  have Hm := Lib.hid (fun w => bmul n w (by omega))
  obtain ⟨a, cap, rfl, hcap, hr⟩ := hv
  obtain ⟨g0, rfl, _, hrow⟩ := hr (by simp)
  have Hrow := Lib.hid hrow
  have Hcap := Lib.hid hcap
  clear hn hr hrow hcap
  simp only [List.length_cons, List.length_nil, Nat.zero_add]
  go_enter Try.func102, Try.ntmps102
  go_wp2_with fail
  refine (Hm.out _).mono ?_
  rintro e w1 ⟨rfl, rfl⟩
  go_wp2_with (first | (at_make; refine wpList_make_full _ rfl _ _ 31 rfl w.heap.size 60 i0 (.agg #[.int .i64 0, .int .i64 0, .int .i64 0, .int .i64 0, .int .i64 0]) 5 Try.underlying31 hi hz0 hz1 .i64 .i64 n n n rfl rfl rfl rfl (by rw [hz2]; omega) (by unfold maxLen; omega) (Nat.le_refl _) ?_))
  intro w1 hown hgrow
  have hb1 : Below w.heap.size w w1 := (Below.refl _ _).grown hgrow (Nat.le_refl _) (fun k hk => by cases hk)
  have hrow1 : RepRow w1 w.heap.size n 0 x := by
    rcases hown.2 with ⟨h, _⟩ | ⟨g, cap, cur, hv, hb, hg, _, _, hs, ht⟩
    · cases h
    · obtain ⟨rfl, rfl⟩ : g = w.heap.size ∧ cap = n := by injection hv with hv _ hv2; injection hv with hv; injection hv with hv; exact ⟨hv.symm, hv2.symm⟩
      refine ⟨cur, hg, ?_⟩
      rw [List.take_of_length_le (by rw [Array.length_toList, hs]; exact Nat.le_refl _), made_flat] at ht
      rw [ht]; rfl
  have Hb1 := Lib.hid hb1
  have Hsrc := Lib.hid (show DRow w1 g0 [x] from Hrow.out.block (hgrow.block g0 Hrow.out.lt (fun h => by cases h)))
  obtain ⟨cur, hg, hcur⟩ := hrow1
  have Hg := Lib.hid hg
  have Hcur := Lib.hid hcur
  have hcs : cur.size = n * 5 := by rw [← Array.length_toList, hcur, flat_len]; simp
  have hsr := src1 Hsrc.out
  clear hown hgrow hb1 hg hcur
  go_wp2_with (first | (refine wpList_copy_N rfl _ _ 31 31 rfl 60 5 Try.underlying31 sizeDw w.heap.size 0 n n ⟨g0, 0, none⟩ 1 cap rfl rfl cur 60 Hg.out (fl x) 1 (Nat.min_eq_left (by omega)).symm rfl hsr (by rw [hcs]; simp [fl]; omega) (fl_plain x) ?_))
  intro w2 hg2 hgrow2
  have Hb2 := Lib.hid (show Below w.heap.size w w2 from Hb1.out.grown hgrow2 Hb1.out.size (fun k hk => by cases hk; exact Nat.le_refl _))
  have Hrow2 := Lib.hid (show RepRow w2 w.heap.size n 1 x from RepRow.grown (m := 0) (k := 1) Hcur.out (by omega) hg2)
  clear hg2 hgrow2 Hg Hcur hcs hsr Hsrc Hrow Hb1
  go_wp2_with fail
  go_loopg [8] (n - 1) (fun k i wr => ∃ m : Nat, k = n - m ∧ 1 ≤ m ∧ m ≤ n ∧ i = .int .i64 m ∧ Hid (RepRow wr w.heap.size n m x) ∧ Hid (Below w.heap.size w wr))
  case atStart => exact ⟨1, rfl, Nat.le_refl _, by omega, rfl, Hrow2, Hb2⟩
  case round =>
    obtain ⟨m, rfl, hm1, hmn, rfl, Hrow, Hb⟩ := hrel
    by_cases hlt : m < n
    · obtain ⟨cur, hg, hcur⟩ := Hrow.out
      obtain ⟨k, hk⟩ : ∃ k, k = Nat.min m (n - m) := ⟨_, rfl⟩
      have hk1 : 1 ≤ k := by rw [hk]; exact Nat.le_min.2 ⟨hm1, by omega⟩
      have hk2 : m + k ≤ n := by have := Nat.min_le_right m (n - m); have e : k ≤ n - m := by rw [hk]; exact this
                                 omega
      have hk3 : k ≤ m := by rw [hk]; exact Nat.min_le_left _ _
      have Hk := Lib.hid hk
      have Hg := Lib.hid hg
      have Hcur := Lib.hid hcur
      have hcs : cur.size = n * 5 := by rw [← Array.length_toList, hcur, flat_len]; simp; omega
      have hsr := RepRow.src (w := wr.drew) (show RepRow wr.drew w.heap.size n m x from Hrow.out) hk3
      have hne : ¬ n = m := by omega
      clear hk hg hcur
      go_upto_region 9 with fail
      go_region_law (refine step_copy_N (by rfl) (.tmp 41) (.tmp 44) 31 31 (by rfl) 60 5 Try.underlying31 sizeDw w.heap.size (m * 5) (n - m) (n - m) ⟨w.heap.size, 0, none⟩ m n (by go_simp) (by go_simp) cur 60 Hg.out (flat (List.replicate k x)) k Hk.out (by rw [flat_len, List.length_replicate]) hsr (by rw [hcs, flat_len, List.length_replicate]; omega) (flat_plainK _) ?_; intro w3 hg3 hgrow3)
      have Hb3 := Lib.hid (show Below w.heap.size w w3 from (Hb.out.drew).grown hgrow3 Hb.out.size (fun k hk => by cases hk; exact Nat.le_refl _))
      have Hrow3 := Lib.hid (show RepRow w3 w.heap.size n (m + k) x from RepRow.grown Hcur.out hk2 hg3)
      clear hg3 hgrow3 hsr hcs
      go_wp2_with fail
      go_roundg (n - (m + k))
      case measure => omega
      case rel => exact ⟨m + k, rfl, by omega, hk2, by rw [IntWalk.i64_in _ (by omega)]; go_num, Hrow3, Hb3⟩
    · obtain rfl : m = n := by omega
      have Hrow' := Hrow
      go_wp2_with fail
      go_ret
      obtain ⟨cur, hg, hcur⟩ := Hrow'.out
      refine ⟨_, rfl, DSl.mk (by simp) (Nat.le_refl _) (Nat.le_refl _) ⟨cur, hg, ?_⟩, Hb.out⟩
      rw [hcur, List.take_of_length_le (by rw [flat_len]; simp)]
      simp
end Go.Proofs.Ytggjbpgibdpflaa
namespace Go.Proofs.Ytggjbpgibdpflaa
open Go.RowKit
theorem vec_any (B : Nat) (n : Int) (w : World) (hcur : CurAt w B) (hB : B < w.heap.size) (h0 : 1 ≤ n) (h1 : n ≤ 3) :
    Calls Try.prog 89 #[.pointer (some ⟨B, 0, none⟩), .int .i64 n] w fun e w' => (∃ v l, e = .returned v ∧ 2 ≤ List.length l ∧ List.length l ≤ 8 ∧ Eb l ∧ DSl w' w.heap.size v l) ∧ CurAt w' B ∧ Own B w w' := by
  rcases (show n = 1 ∨ n = 2 ∨ n = 3 by omega) with rfl | rfl | rfl
  · refine (vec1 B w hcur hB).mono ?_
    rintro e w1 ⟨⟨v, l, rfl, hl, he, hd⟩, hc, ho⟩
    exact ⟨⟨v, l, rfl, by omega, by omega, he, hd⟩, hc, ho⟩
  · refine (vec2 B w hcur hB).mono ?_
    rintro e w1 ⟨⟨v, l, rfl, hl, he, hd⟩, hc, ho⟩
    exact ⟨⟨v, l, rfl, by omega, by omega, he, hd⟩, hc, ho⟩
  · refine (vec3 B w hcur hB).mono ?_
    rintro e w1 ⟨⟨v, l, rfl, hl, he, hd⟩, hc, ho⟩
    exact ⟨⟨v, l, rfl, by omega, by omega, he, hd⟩, hc, ho⟩
theorem flat_take : ∀ (l : List Dw) (k : Nat), flat (l.take k) = (flat l).take (k * 5)
  | l, 0 => by simp [flat]
  | [], k + 1 => by simp [flat]
  | x :: l, k + 1 => by
    rw [List.take_succ_cons, flat, flat, flat_take l k, show (k + 1) * 5 = (fl x).length + k * 5 by simp [fl]; omega, List.take_length_add_append]
theorem DRow.take {w : World} {g : Nat} {l : List Dw} (h : DRow w g l) (k : Nat) : DRow w g (l.take k) := by
  obtain ⟨cs, h1, h2⟩ := h
  refine ⟨cs, h1, ?_⟩
  rw [flat_take, ← h2, List.take_take, List.length_take]
  congr 1
  omega
attribute [local irreducible] World.cell?
set_option maxRecDepth 100000 in
set_option maxHeartbeats 3200000 in
theorem bentS (B : Nat) (w : World) (hcur : CurAt w B) (hB : B < w.heap.size) :
    Calls Try.prog 88 #[.pointer (some ⟨B, 0, none⟩)] w fun e w' => (∃ v l, e = .returned v ∧ List.length l ≤ 8 ∧ Eb l ∧ DSl w' w.heap.size v l) ∧ CurAt w' B ∧ Own B w w' := by
  go_enter Try.func88, Try.ntmps88
  go_wp2_with fail
  refine (below_any B 3 _ hcur (by omega) (by omega)).mono ?_
  rintro e w1 ⟨⟨x, x0, x1, rfl⟩, hc1, ho1⟩
  have hs1 := ho1.size
  have Hc1 := Lib.hid hc1
  have Ho1 := Lib.hid ho1
  clear hc1 ho1 hcur
  go_wp2_with fail
  refine (vec_any B (1 + x) _ Hc1.out (by omega) (by omega) (by omega)).mono ?_
  rintro e w2 ⟨⟨v, l, rfl, hl2, hl8, he, hd⟩, hc2, ho2⟩
  have hs2 := ho2.size
  have Hc2 := Lib.hid hc2
  have Ho2 := Lib.hid (own_trans Ho1.out ho2)
  have He := Lib.hid he
  obtain ⟨a, cap, rfl, hcap, hr⟩ := hd
  obtain ⟨g, rfl, hg, hrow⟩ := hr (by omega)
  have Hrow := Lib.hid hrow
  clear hc2 ho2 Hc1 Ho1 he hr hrow
  go_wp2_with fail
  refine (below_any B 8 _ Hc2.out (by omega) (by omega)).mono ?_
  rintro e w3 ⟨⟨y, y0, y1, rfl⟩, hc3, ho3⟩
  have hs3 := ho3.size
  have Hrow3 := Lib.hid (Hrow.out.own ho3 (by omega))
  have Hc3 := Lib.hid hc3
  have Ho3 := Lib.hid (own_trans Ho2.out ho3)
  clear hc3 ho3 Hc2 Ho2 Hrow
  by_cases h0 : y = 0
  · subst h0
    go_wp2_with fail
    refine (below_any B (l.length : Int) _ Hc3.out (by omega) (by omega)).mono ?_
    rintro e w4 ⟨⟨k, k0, k1, rfl⟩, hc4, ho4⟩
    obtain ⟨k, rfl⟩ : ∃ n : Nat, k = n := ⟨k.toNat, by omega⟩
    have hs4 := ho4.size
    have Hrow4 := Lib.hid (Hrow3.out.own ho4 (by omega))
    have Hc4 := Lib.hid hc4
    have Ho4 := Lib.hid (own_trans Ho3.out ho4)
    clear hc4 ho4 Hc3 Ho3 Hrow3
    go_wp2_with fail
    refine (bent_any B _ Hc4.out (by omega)).mono ?_
    rintro e w5 ⟨⟨z, rfl, ze⟩, hc5, ho5⟩
    have hs5 := ho5.size
    have hr5 := Hrow4.out.own ho5 (by omega)
    obtain ⟨u, hu⟩ : ∃ u, l[k]? = some u := ⟨l[k], List.getElem?_eq_getElem (by omega)⟩
    obtain ⟨c0, c1, c2, c3, c4⟩ := hr5.cells hu
    have f1 := fun o => hr5.free o
    have Hr6 := Lib.hid (hr5.put k (by omega) z)
    have Hc5 := Lib.hid hc5
    have Ho5 := Lib.hid (own_trans Ho4.out ho5)
    have hgw : w.heap.size ≤ g := by omega
    have Ho6 := Lib.hid (own_dn (own_dn (own_dn (own_dn (own_dn Ho5.out (k * 5) (.int .i64 z.n.a) hgw) (k * 5 + 1) (.int .i64 z.n.b) hgw) (k * 5 + 2) (.int .i64 z.n.c) hgw) (k * 5 + 3) (.int .i64 z.n.d) hgw) (k * 5 + 4) (.int .i64 z.e) hgw)
    have Hc6 := Lib.hid (Hc5.out.own (C := g) (own_set (own_set (own_set (own_set (own_set (own_refl g w5) (k * 5) (.int .i64 z.n.a)) (k * 5 + 1) (.int .i64 z.n.b)) (k * 5 + 2) (.int .i64 z.n.c)) (k * 5 + 3) (.int .i64 z.n.d)) (k * 5 + 4) (.int .i64 z.e)) (by omega))
    clear hc5 ho5 Hc4 Ho4 Hrow4 hr5 hu Hc5 Ho5
    go_wp2_with fail
    go_ret
    exact ⟨⟨_, l.set k z, rfl, by simpa using hl8, He.out.set k ze, DSl.mk (by simp) hcap hgw Hr6.out⟩, Hc6.out, Ho6.out⟩
  · by_cases h1 : y = 1
    · subst h1
      go_wp2_with fail
      refine (below_any B (l.length : Int) _ Hc3.out (by omega) (by omega)).mono ?_
      rintro e w4 ⟨⟨k, k0, k1, rfl⟩, hc4, ho4⟩
      obtain ⟨k, rfl⟩ : ∃ n : Nat, k = n := ⟨k.toNat, by omega⟩
      have hs4 := ho4.size
      have Hrow4 := Lib.hid (Hrow3.out.own ho4 (by omega))
      have Hc4 := Lib.hid hc4
      have Ho4 := Lib.hid (own_trans Ho3.out ho4)
      clear hc4 ho4 Hc3 Ho3 Hrow3
      go_wp2_with fail
      go_ret
      exact ⟨⟨_, l.take k, rfl, by simp; omega, He.out.take k, DSl.mk (by simp; omega) (by omega) (by omega) (Hrow4.out.take k)⟩, Hc4.out, Ho4.out⟩
    · have e0 : (y == 0) = false := by simpa using h0
      have e1 : (y == 1) = false := by simpa using h1
      go_wp2_with fail
      go_ret
      exact ⟨⟨_, l, rfl, hl8, He.out, DSl.mk rfl hcap (by omega) Hrow3.out⟩, Hc3.out, Ho3.out⟩
set_option maxRecDepth 100000 in
set_option maxHeartbeats 3200000 in
theorem drawAdd (a0 : Option Addr) (len cap : Nat) (w : World) (hcode : CodeAt w w.heap.size a0 len) :
    Calls Try.prog 52 #[.slice a0 len cap] w fun e w' => (∃ u v a b, e = .returned (.tuple #[u, v]) ∧ List.length a ≤ 8 ∧ List.length b ≤ 8 ∧ Eb a ∧ Eb b ∧ DSl w' w.heap.size u a ∧ DSl w' w.heap.size v b) ∧ Below w.heap.size w w' := by
  have Hcode := Lib.hid hcode
  clear hcode
  go_enter Try.func52, Try.ntmps52
  go_wp2_with fail
  refine (new_any a0 len cap _ Hcode.out).mono ?_
  rintro e w1 ⟨rfl, hc1, hb1, hz1⟩
  have Hc1 := Lib.hid hc1
  have Hb1 := Lib.hid hb1
  clear hc1 hb1
  go_wp2_with fail
  refine (below_any w.heap.size 3 _ Hc1.out (by omega) (by omega)).mono ?_
  rintro e w2 ⟨⟨x, x0, x1, rfl⟩, hc2, ho2⟩
  have hs2 := ho2.size
  have Hc2 := Lib.hid hc2
  have Hb2 := Lib.hid (own_below Hb1.out ho2 (by omega))
  clear hc2 ho2 Hc1 Hb1
  go_wp2_with fail
  refine (once_any w.heap.size 4 _ Hc2.out (by omega) (by omega)).mono ?_
  rintro e w3 ⟨⟨t, rfl⟩, hc3, ho3⟩
  have hs3 := ho3.size
  have Hc3 := Lib.hid hc3
  have Hb3 := Lib.hid (own_below Hb2.out ho3 (by omega))
  clear hc3 ho3 Hc2 Hb2
  cases t with
  | true =>
    go_wp2_with fail
    refine (bentS w.heap.size _ Hc3.out (by omega)).mono ?_
    rintro e w4 ⟨⟨u, a, rfl, ha, ea, hd⟩, hc4, ho4⟩
    have hs4 := ho4.size
    have Hd := Lib.hid hd
    have Hc4 := Lib.hid hc4
    have Hb4 := Lib.hid (own_below Hb3.out ho4 (by omega))
    clear hd hc4 ho4 Hc3 Hb3
    go_wp2_with fail
    refine (bentS w.heap.size _ Hc4.out (by omega)).mono ?_
    rintro e w5 ⟨⟨v, b, rfl, hb, eb, hd⟩, hc5, ho5⟩
    have hs5 := ho5.size
    have Hd1 := Lib.hid (Hd.out.own ho5 (by omega))
    have Hd2 := Lib.hid hd
    have Hb5 := Lib.hid (own_below Hb4.out ho5 (by omega))
    clear hd hc5 ho5 Hc4 Hb4 Hd
    go_wp2_with fail
    go_returns
    exact ⟨⟨u, v, a, b, rfl, ha, hb, ea, eb, Hd1.out.mono (by omega), Hd2.out.mono (by omega)⟩, Hb5.out⟩
  | false =>
    go_wp2_with fail
    refine (vec_any w.heap.size _ _ Hc3.out (by omega) (by omega) (by omega)).mono ?_
    rintro e w4 ⟨⟨u, a, rfl, -, ha, ea, hd⟩, hc4, ho4⟩
    have hs4 := ho4.size
    have Hd := Lib.hid hd
    have Hc4 := Lib.hid hc4
    have Hb4 := Lib.hid (own_below Hb3.out ho4 (by omega))
    clear hd hc4 ho4 Hc3 Hb3
    go_wp2_with fail
    refine (vec_any w.heap.size _ _ Hc4.out (by omega) (by omega) (by omega)).mono ?_
    rintro e w5 ⟨⟨v, b, rfl, -, hb, eb, hd⟩, hc5, ho5⟩
    have hs5 := ho5.size
    have Hd1 := Lib.hid (Hd.out.own ho5 (by omega))
    have Hd2 := Lib.hid hd
    have Hb5 := Lib.hid (own_below Hb4.out ho5 (by omega))
    clear hd hc5 ho5 Hc4 Hb4 Hd
    go_wp2_with fail
    go_returns
    exact ⟨⟨u, v, a, b, rfl, ha, hb, ea, eb, Hd1.out.mono (by omega), Hd2.out.mono (by omega)⟩, Hb5.out⟩
set_option maxRecDepth 100000 in
set_option maxHeartbeats 3200000 in
theorem drawBasis (a0 : Option Addr) (len cap : Nat) (w : World) (hcode : CodeAt w w.heap.size a0 len) :
    Calls Try.prog 58 #[.slice a0 len cap] w fun e w' => (∃ n i : Int, e = .returned (.tuple #[.int .i64 n, .int .i64 i]) ∧ -1 ≤ n ∧ n ≤ 5 ∧ -1 ≤ i ∧ i ≤ 16) ∧ Below w.heap.size w w' := by
  have Hcode := Lib.hid hcode
  clear hcode
  go_enter Try.func58, Try.ntmps58
  go_wp2_with fail
  refine (new_any a0 len cap _ Hcode.out).mono ?_
  rintro e w1 ⟨rfl, hc1, hb1, hz1⟩
  have Hc1 := Lib.hid hc1
  have Hb1 := Lib.hid hb1
  clear hc1 hb1
  go_wp2_with fail
  refine (below_any w.heap.size 7 _ Hc1.out (by omega) (by omega)).mono ?_
  rintro e w2 ⟨⟨x, x0, x1, rfl⟩, hc2, ho2⟩
  have hs2 := ho2.size
  have Hc2 := Lib.hid hc2
  have Hb2 := Lib.hid (own_below Hb1.out ho2 (by omega))
  clear hc2 ho2 Hc1 Hb1
  go_wp2_with fail
  have hl : ListAt (w2.alloc (.cells #[.int .i64 0, .int .i64 1, .int .i64 2, .int .i64 3, .int .i64 7, .int .i64 8, .int .i64 15, .int .i64 16, .int .i64 (-1)] 3)) w2.heap.size 9 (fun j => .int .i64 ([0, 1, 2, 3, 7, 8, 15, 16, -1].getD j 0)) := by
    intro j hj
    rcases (show j = 0 ∨ j = 1 ∨ j = 2 ∨ j = 3 ∨ j = 4 ∨ j = 5 ∨ j = 6 ∨ j = 7 ∨ j = 8 by omega) with rfl | rfl | rfl | rfl | rfl | rfl | rfl | rfl | rfl <;> exact cell_at (heap_alloc_new _ _) _ _ rfl
  refine (pickB w.heap.size w2.heap.size 9 9 _ _ (Hc2.out.own (own_alloc (own_refl w2.heap.size w2) _) (by omega)) hl (by omega) (by omega) (by omega) rfl (-1) 16 (by decide)).mono ?_
  rintro e w3 ⟨⟨i, i0, i1, rfl⟩, hc3, ho3⟩
  have Hb3 := Lib.hid (own_below (Hb2.out.alloc (by omega) _) ho3 (by simp; omega))
  clear hc3 ho3 hl
  go_wp2_with fail
  go_returns
  exact ⟨⟨_, i, rfl, by omega, by omega, i0, i1⟩, Hb3.out⟩
end Go.Proofs.Ytggjbpgibdpflaa
namespace Go.Proofs.Ytggjbpgibdpflaa
open Go.RowKit
def bst (N k : Nat) : List Dw := (List.replicate N Dw.zero).set k oneD
theorem bst2 : ∀ k i : Fin 2, innO (bst 2 k.val) (bst 2 i.val) = some (if k = i then oneD else .zero) := by decide +kernel
theorem bst4 : ∀ k i : Fin 4, innO (bst 4 k.val) (bst 4 i.val) = some (if k = i then oneD else .zero) := by decide +kernel
theorem bst8 : ∀ k i : Fin 8, innO (bst 8 k.val) (bst 8 i.val) = some (if k = i then oneD else .zero) := by decide +kernel
theorem bst16 : ∀ k i : Fin 16, innO (bst 16 k.val) (bst 16 i.val) = some (if k = i then oneD else .zero) := by decide +kernel
theorem bst_st : (∀ k : Fin 2, stB (bst 2 k.val) = true) ∧ (∀ k : Fin 4, stB (bst 4 k.val) = true) ∧ (∀ k : Fin 8, stB (bst 8 k.val) = true) ∧ (∀ k : Fin 16, stB (bst 16 k.val) = true) := by decide +kernel
/-- A basis state that there is. -/
def Bs (n : Int) (N : Nat) : Prop := (n = 1 ∧ N = 2) ∨ (n = 2 ∧ N = 4) ∨ (n = 3 ∧ N = 8) ∨ (n = 4 ∧ N = 16)
theorem bs_of {n i : Int} (h : 1 ≤ n ∧ n ≤ 4 ∧ 0 ≤ i ∧ i ≤ 2 ^ n.toNat - 1) : ∃ N k : Nat, Bs n N ∧ i = k ∧ k < N := by
  obtain ⟨h0, h1, h2, h3⟩ := h
  obtain ⟨k, rfl⟩ : ∃ k : Nat, i = k := ⟨i.toNat, by omega⟩
  rcases (show n = 1 ∨ n = 2 ∨ n = 3 ∨ n = 4 by omega) with rfl | rfl | rfl | rfl
  · exact ⟨2, k, .inl ⟨rfl, rfl⟩, rfl, by have : (k : Int) ≤ 1 := h3; omega⟩
  · exact ⟨4, k, .inr (.inl ⟨rfl, rfl⟩), rfl, by have : (k : Int) ≤ 3 := h3; omega⟩
  · exact ⟨8, k, .inr (.inr (.inl ⟨rfl, rfl⟩)), rfl, by have : (k : Int) ≤ 7 := h3; omega⟩
  · exact ⟨16, k, .inr (.inr (.inr ⟨rfl, rfl⟩)), rfl, by have : (k : Int) ≤ 15 := h3; omega⟩
theorem bs_list {n : Int} {N k : Nat} (h : Bs n N) (hk : k < N) : basisL n k = bst N k := by
  rcases h with ⟨rfl, rfl⟩ | ⟨rfl, rfl⟩ | ⟨rfl, rfl⟩ | ⟨rfl, rfl⟩
  · exact if_pos ⟨by decide, by decide, by omega, by show (k : Int) ≤ 1; omega⟩
  · exact if_pos ⟨by decide, by decide, by omega, by show (k : Int) ≤ 3; omega⟩
  · exact if_pos ⟨by decide, by decide, by omega, by show (k : Int) ≤ 7; omega⟩
  · exact if_pos ⟨by decide, by decide, by omega, by show (k : Int) ≤ 15; omega⟩
theorem bs_inn {n : Int} {N k i : Nat} (h : Bs n N) (hk : k < N) (hi : i < N) : innV (bst N k) (bst N i) = (if k = i then oneD else .zero) ∧ innB (bst N k) (bst N i) = true := by
  have e : innO (bst N k) (bst N i) = some (if k = i then oneD else .zero) := by
    rcases h with ⟨rfl, rfl⟩ | ⟨rfl, rfl⟩ | ⟨rfl, rfl⟩ | ⟨rfl, rfl⟩
    · simpa using bst2 ⟨k, hk⟩ ⟨i, hi⟩
    · simpa using bst4 ⟨k, hk⟩ ⟨i, hi⟩
    · simpa using bst8 ⟨k, hk⟩ ⟨i, hi⟩
    · simpa using bst16 ⟨k, hk⟩ ⟨i, hi⟩
  exact ⟨by unfold innV; rw [e]; rfl, by unfold innB; rw [e]; rfl⟩
theorem bst_len (N k : Nat) : (bst N k).length = N := by simp [bst]
theorem bs_st {n : Int} {N k : Nat} (h : Bs n N) (hk : k < N) : stB (bst N k) = true ∧ qc (bst N k).length = n ∧ 0 < N ∧ N ≤ 16 := by
  obtain ⟨s1, s2, s3, s4⟩ := bst_st
  rw [bst_len]
  rcases h with ⟨rfl, rfl⟩ | ⟨rfl, rfl⟩ | ⟨rfl, rfl⟩ | ⟨rfl, rfl⟩
  · exact ⟨s1 ⟨k, hk⟩, rfl, by omega, by omega⟩
  · exact ⟨s2 ⟨k, hk⟩, rfl, by omega, by omega⟩
  · exact ⟨s3 ⟨k, hk⟩, rfl, by omega, by omega⟩
  · exact ⟨s4 ⟨k, hk⟩, rfl, by omega, by omega⟩
theorem st_eb {l : List Dw} (h : stB l = true) : Eb l := fun x hx => by have := ((stB_iff.1 h).1 x hx).2; omega
theorem one_not : eqDB oneD .zero = false ∧ eqDB .zero oneD = false := by decide
end Go.Proofs.Ytggjbpgibdpflaa
namespace Go.Proofs.Ytggjbpgibdpflaa
open Go.RowKit
attribute [local irreducible] World.cell?
set_option maxRecDepth 100000 in
set_option maxHeartbeats 3200000 in
theorem drawScale (a0 : Option Addr) (len cap : Nat) (w : World) (hcode : CodeAt w w.heap.size a0 len) :
    Calls Try.prog 64 #[.slice a0 len cap] w fun e w' => (∃ (u : Value) (a : List Dw) (x : Dw), e = .returned (.tuple #[u, (.agg #[.int .i64 x.n.a, .int .i64 x.n.b, .int .i64 x.n.c, .int .i64 x.n.d, .int .i64 x.e])]) ∧ List.length a ≤ 8 ∧ Eb a ∧ (-9223372036854775808 ≤ x.e ∧ x.e ≤ 9223372036854775807) ∧ DSl w' w.heap.size u a) ∧ Below w.heap.size w w' := by
  have Hcode := Lib.hid (show CodeAt (w.alloc (.cells #[.int .i64 0, .int .i64 0, .int .i64 0, .int .i64 0, .int .i64 0] 60)) (w.alloc (.cells #[.int .i64 0, .int .i64 0, .int .i64 0, .int .i64 0, .int .i64 0] 60)).heap.size a0 len from (hcode.below ((Below.refl _ _).alloc (Nat.le_refl _) (.cells #[.int .i64 0, .int .i64 0, .int .i64 0, .int .i64 0, .int .i64 0] 60))).mono (by simp))
  have Hr0 := Lib.hid (heap_alloc_new w (.cells #[.int .i64 0, .int .i64 0, .int .i64 0, .int .i64 0, .int .i64 0] 60))
  clear hcode
  go_enter Try.func64, Try.ntmps64
  go_wp2_with fail
  refine (new_any a0 len cap _ Hcode.out).mono ?_
  rintro e w1 ⟨rfl, hc1, hb1, hz1⟩
  have hz0 : (w.alloc (.cells #[.int .i64 0, .int .i64 0, .int .i64 0, .int .i64 0, .int .i64 0] 60)).heap.size = w.heap.size + 1 := by simp
  rw [hz0] at hc1 hz1
  have Hr1 := Lib.hid (below_blk hb1 (lt_of_block Hr0.out) Hr0.out)
  have Hc1 := Lib.hid hc1
  have Hb1 := Lib.hid (below_up (B := w.heap.size) (w := w) (by go_grown) hb1 (by simp))
  have hs1 := hb1.size
  rw [hz0] at hs1
  clear hc1 hb1
  go_wp2_with fail
  refine (bentS (w.heap.size + 1) _ Hc1.out hz1).mono ?_
  rintro e w2 ⟨⟨u, a, rfl, ha, ea, hd⟩, hc2, ho2⟩
  have hs2 := ho2.size
  have Hr2 := Lib.hid (own_blk ho2 (by omega) Hr1.out)
  have Hd := Lib.hid hd
  have Hc2 := Lib.hid hc2
  have Hb2 := Lib.hid (below_own Hb1.out ho2 (by omega) (by omega))
  clear hd hc2 ho2 Hc1 Hb1
  go_wp2_with fail
  refine (bent_any (w.heap.size + 1) _ Hc2.out (by omega)).mono ?_
  rintro e w3 ⟨⟨x, rfl, xe⟩, hc3, ho3⟩
  have hs3 := ho3.size
  have Hr3 := Lib.hid (own_blk ho3 (by omega) Hr2.out)
  have Hd3 := Lib.hid (Hd.out.own ho3 (by omega))
  have Hb3 := Lib.hid (below_own Hb2.out ho3 (by omega) (by omega))
  clear hc3 ho3 Hc2 Hb2 Hd
  obtain ⟨e0, e1, e2, e3, e4⟩ := blk_cells5 Hr3.out
  have f1 := fun o => free_at Hr3.out o
  have hrl := lt_of_block Hr3.out
  go_wp2_with fail
  obtain ⟨k0, k1, k2, k3, k4⟩ := blk_cells5 (set5_at (u0 := .int .i64 x.n.a) (u1 := .int .i64 x.n.b) (u2 := .int .i64 x.n.c) (u3 := .int .i64 x.n.d) (u4 := .int .i64 x.e) Hr3.out)
  refine bodyPost_ret (v := .tuple #[u, (.agg #[.int .i64 x.n.a, .int .i64 x.n.b, .int .i64 x.n.c, .int .i64 x.n.d, .int .i64 x.e])]) (by simp only [results, Try.results64]; simp [go_sem, k0, k1, k2, k3, k4]) rfl ⟨⟨u, a, x, rfl, ha, ea, xe, ?_⟩, ?_⟩
  · refine DSl.mono (B := w1.heap.size) (Hd3.out.block fun q hq _ => ?_) (by omega)
    rw [Below.heap_setCell _ _ _ _ (by show q ≠ w.heap.size; omega), Below.heap_setCell _ _ _ _ (by show q ≠ w.heap.size; omega), Below.heap_setCell _ _ _ _ (by show q ≠ w.heap.size; omega), Below.heap_setCell _ _ _ _ (by show q ≠ w.heap.size; omega), Below.heap_setCell _ _ _ _ (by show q ≠ w.heap.size; omega)]
  · have := Hb3.out
    go_grown
end Go.Proofs.Ytggjbpgibdpflaa
