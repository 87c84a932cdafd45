/- BaseB27: several of our texts in one: PmD PmX PmB. -/
import Derived.Test.YtkcpemkahkkcmaaPmS
import Derived.Laws.OwnMore
import Derived.Test.YtkcpemkahkkcmaaBaseB20
import Derived.Test.YtkcpemkahkkcmaaZwDraw
import Derived.Deep.Onto
namespace Go.Proofs.Ytkcpemkahkkcmaa
open Go.RowKit
theorem own_keep {w w' : World} {base B n size : Nat} {e : TypeId} {v : Value} {xs : List Value} (h : w.ownsRow base e size v n xs) (ho : Own B w w') (hB : B < base) : w'.ownsRow base e size v n xs := by
  refine ⟨h.1, ?_⟩
  rcases h.2 with h1 | ⟨g, cap, cur, hv, hb, hg, r⟩
  · exact .inl h1
  · exact .inr ⟨g, cap, cur, hv, hb, by rw [ho.block g (lt_of_block hg) (by intro e; injection e with e; omega)]; exact hg, r⟩
theorem own_row {w : World} {base n cap g : Nat} {l : List Int} (h : w.ownsRow base 3 1 (.slice (some ⟨g, 0, none⟩) n cap) n (intE.flat l)) (hl : l.length = n) : intE.Row w g l := by
  rcases h.2 with ⟨h1, _⟩ | ⟨g', cap', cur, hv, hb, hg, hn, hc, hs, ht⟩
  · cases h1
  · injection hv with e1 e2 e3
    injection e1 with e1
    injection e1 with e1
    subst e1
    exact ⟨cur, hg, by rw [hl]; exact ht⟩
theorem own_put {w : World} {base n cap g j : Nat} {l : List Int} (h : w.ownsRow base 3 1 (.slice (some ⟨g, 0, none⟩) n cap) n (intE.flat l)) (hj : j < l.length) (y : Int) : (w.setCell ⟨g, j, none⟩ (.int .i64 y)).ownsRow base 3 1 (.slice (some ⟨g, 0, none⟩) n cap) n (intE.flat (l.set j y)) := by
  have h1 := (h.stored j (.int .i64 y)).1
  have h2 := intE.flat_set1 (j := j) (x := l[j]) (y := y) (o := 0) (v := .int .i64 y) (List.getElem?_eq_getElem hj) (by simp [intE]) rfl
  rw [show j * intE.n + 0 = j from by simp [intE]] at h2
  rwa [h2] at h1
attribute [local irreducible] World.cell?
set_option maxRecDepth 100000 in
set_option maxHeartbeats 1600000 in
theorem sidO_yes (n : Nat) (w : World) (h1 : 1 ≤ n) (h4 : n ≤ 4) :
    Calls Try.prog 122 #[.int .i64 n] w fun e w' => ∃ g cap, e = .returned (.slice (some ⟨g, 0, none⟩) n cap) ∧ w.heap.size ≤ g ∧ w'.ownsRow w.heap.size 3 1 (.slice (some ⟨g, 0, none⟩) n cap) n (intE.flat (upL n)) ∧ Below w.heap.size w w' := by
  obtain ⟨i0, hi, hz0, hz1, hz2⟩ := info_parts infoInt
  have H1 := Lib.hid (fun w => lin_any n 1 4 true w (by simp; omega))
  go_enter Try.func122, Try.ntmps122
  go_wp2_with fail
  go_loopg [3, 4] n (fun k out i wr => ∃ j : Nat, k = n - j ∧ j ≤ n ∧ i = .int .i64 j ∧ Hid (wr.ownsRow w.heap.size 3 1 out j (intE.flat (upL j))) ∧ Hid (Below w.heap.size w wr))
  case atStart => exact ⟨0, rfl, Nat.zero_le _, rfl, Lib.hid (Enc.own_nil (E := intE) rfl), Lib.hid (by go_grown)⟩
  case round =>
    obtain ⟨j, rfl, hj, rfl, Hown, Hb⟩ := hrel
    have hs := Hb.out.size
    by_cases hlt : j < n
    · have hd : decide ((j : Int) < n) = true := decide_eq_true (by omega)
      have Hstep := Lib.hid (show intE.flat (upL j) ++ [.int .i64 (j : Int)] = intE.flat (upL (j + 1)) by rw [upL_snoc, intE.flat_app]; rfl)
      have Hnew := Lib.hid (Enc.new_row (E := intE) wr (j : Int) #[.int .i64 (j : Int)] rfl)
      go_wp2_with fail
      refine (H1.out _).mono ?_
      rintro e w2 ⟨rfl, rfl⟩
      go_wp2_with (first
        | (at_builtin; refine wpList_append_own _ rfl _ _ 39 rfl w.heap.size 3 i0 (.int .i64 0) 1 8 Try.underlying39 hi hz0 hz1 hz2 rfl (by decide) _ _ _ rfl (Hown.out.alloc _) ⟨wr.heap.size, 0, none⟩ 1 1 [.int .i64 (j : Int)] rfl rfl Hnew.out (one_int _) ?d3 ?d4 ?d5 ?_))
      case d3 => unfold maxLen; omega
      case d4 => omega
      case d5 => first | omega | (simp; omega)
      intro v' w4 hown' hgrow _
      have HB4 := Lib.hid ((Hb.out.alloc hs (.cells #[.int .i64 (j : Int)] 3)).grown hgrow (by simp; omega) (fun q hq => by have := Hown.out.lt q hq; omega))
      rw [Hstep.out] at hown'
      have Hown4 := Lib.hid hown'
      clear hown' hgrow
      go_wp2_with fail
      go_roundg (n - (j + 1))
      case measure => omega
      case rel => exact ⟨j + 1, rfl, by omega, by go_num, Hown4, HB4⟩
    · obtain rfl : j = n := by omega
      have hd : decide ((j : Int) < j) = false := by simp
      have hown := Hown.out
      rcases hown.2 with ⟨_, h0⟩ | ⟨g, cap, cur, hv, hg, _⟩
      · omega
      subst hv
      have Hout := Lib.hid hown
      clear hown
      go_wp2_with fail
      refine (H1.out _).mono ?_
      rintro e w2 ⟨rfl, rfl⟩
      go_wp2_with fail
      go_ret
      exact ⟨g, cap, rfl, hg, Hout.out, Hb.out⟩
set_option maxRecDepth 100000 in
set_option maxHeartbeats 3200000 in
theorem permO_any (B n : Nat) (w : World) (hcur : CurAt w B) (hB : B < w.heap.size) (h1 : 1 ≤ n) (h4 : n ≤ 4) :
    Calls Try.prog 84 #[.pointer (some ⟨B, 0, none⟩), .int .i64 n] w fun e w' => (∃ g cap l, e = .returned (.slice (some ⟨g, 0, none⟩) n cap) ∧ List.length l = n ∧ (∀ x ∈ l, 0 ≤ x ∧ x < (n : Int)) ∧ w.heap.size ≤ g ∧ w'.ownsRow w.heap.size 3 1 (.slice (some ⟨g, 0, none⟩) n cap) n (intE.flat l)) ∧ CurAt w' B ∧ Own B w w' := by
  go_enter Try.func84, Try.ntmps84
  go_wp2_with fail
  refine (sidO_yes n _ h1 h4).mono ?_
  rintro e w1 ⟨g, cap, rfl, hg, hown, hb1⟩
  have Hc1 := Lib.hid (hcur.below hb1 hB)
  have Ho1 := Lib.hid (show Own B w w1 from own_of_below hb1)
  have hs1 := hb1.size
  have Hown1 := Lib.hid hown
  clear hb1 hown hcur
  go_wp2_with fail
  go_loopg [6] (n - 1) (fun n' i wr => ∃ (k : Nat) (l : List Int), k = n' ∧ i = .int .i64 (k : Int) ∧ k < n ∧ l.length = n ∧ Hid (∀ x ∈ l, 0 ≤ x ∧ x < (n : Int)) ∧ Hid (wr.ownsRow w.heap.size 3 1 (.slice (some ⟨g, 0, none⟩) n cap) n (intE.flat l)) ∧ Hid (CurAt wr B) ∧ Hid (Own B w wr) ∧ g < wr.heap.size)
  case atStart => exact ⟨n - 1, upL n, rfl, by congr 1; omega, by omega, upL_len n, Lib.hid (fun x hx => upL_mem hx), Hown1, Hc1, Ho1, (own_row Hown1.out (upL_len n)).lt⟩
  case round =>
    obtain ⟨k, l, rfl, rfl, hk, hl, Hbd, Hr, Hc, Ho, hgl⟩ := hrel
    by_cases h0 : k = 0
    · subst h0
      go_wp2_with fail
      go_ret
      exact ⟨⟨g, cap, l, rfl, hl, Hbd.out, hg, Hr.out⟩, Hc.out, Ho.out⟩
    · obtain ⟨m, rfl⟩ : ∃ m, k = m + 1 := ⟨k - 1, by omega⟩
      have hgw : w.heap.size ≤ g := hg
      go_wp2_with fail
      refine (below_any B ((m : Int) + 1 + 1) _ Hc.out (by omega) (by omega)).mono ?_
      rintro e w2 ⟨⟨x, x0, x1, rfl⟩, hc2, ho2⟩
      obtain ⟨q, rfl⟩ : ∃ q : Nat, x = q := ⟨x.toNat, by omega⟩
      have hq : q < n := by omega
      have Ho1' := Lib.hid (own_keep Hr.out ho2 hB)
      have hr2 := own_row Ho1'.out hl
      have Ho2 := Lib.hid (own_trans Ho.out ho2)
      have hs2 := ho2.size
      obtain ⟨a, ha⟩ : ∃ a, l[m + 1]? = some a := ⟨l[m + 1], List.getElem?_eq_getElem (by omega)⟩
      obtain ⟨b, hb⟩ : ∃ b, l[q]? = some b := ⟨l[q], List.getElem?_eq_getElem (by omega)⟩
      have ca := IRow.cell hr2 ha
      have cb := IRow.cell hr2 hb
      have f1 := fun o => hr2.free o
      have Hr3 := Lib.hid (own_put (own_put Ho1'.out (j := m + 1) (by omega) b) (j := q) (by simp; omega) a)
      have Hc3 := Lib.hid (hc2.own (C := g) (own_set (own_set (own_refl g w2) (m + 1) (.int .i64 b)) q (.int .i64 a)) (by omega))
      have Ho3 := Lib.hid (own_dn (own_dn Ho2.out (m + 1) (.int .i64 b) hgw) q (.int .i64 a) hgw)
      have hba := Hbd.out a (List.mem_of_getElem? ha)
      have hbb := Hbd.out b (List.mem_of_getElem? hb)
      have Hbd3 := Lib.hid (show ∀ x ∈ (l.set (m + 1) b).set q a, 0 ≤ x ∧ x < (n : Int) from fun x hx => by
        rcases List.mem_or_eq_of_mem_set hx with h | rfl
        · rcases List.mem_or_eq_of_mem_set h with h | rfl
          · exact Hbd.out x h
          · exact hbb
        · exact hba)
      have Hab := Lib.hid (fun (e : q = m + 1) => show b = a by subst e; rw [ha] at hb; injection hb with hb; exact hb.symm)
      clear hr2 hc2 ho2 Hr Hc Ho ha hb hba hbb Hbd Ho1' Ho2
      by_cases hqm : q = m + 1
      · obtain rfl := Hab.out hqm
        subst hqm
        go_wp2_with fail
        go_roundg m
        case measure => omega
        case rel => exact ⟨m, _, rfl, by go_num, by omega, by simpa using hl, Hbd3, Hr3, Hc3, Ho3, by simp [World.setCell]; omega⟩
      · go_wp2_with fail
        go_roundg m
        case measure => omega
        case rel => exact ⟨m, _, rfl, by go_num, by omega, by simpa using hl, Hbd3, Hr3, Hc3, Ho3, by simp [World.setCell]; omega⟩
end Go.Proofs.Ytkcpemkahkkcmaa
namespace Go.Proofs.Ytkcpemkahkkcmaa
open Go.RowKit
theorem invS_ei (p : List Int) : ∀ j, j ≤ 1048576 → Ei (invS p j)
  | 0, _, x, hx => by
    rw [invS] at hx
    rw [List.eq_of_mem_replicate hx]
    omega
  | j + 1, hj, x, hx => by
    rw [invS] at hx
    rcases List.mem_or_eq_of_mem_set hx with h | rfl
    · exact invS_ei p j (by omega) x h
    · omega
theorem Ei_inv {p : List Int} (h : p.length ≤ 1048576) : Ei (invP p) := by
  unfold invP
  split
  · exact invS_ei p _ h
  · intro x hx; cases hx
theorem Ei_cmp {p q : List Int} (hq : Ei q) : Ei (cmpP p q) := by
  unfold cmpP
  split
  · intro x hx
    obtain ⟨y, -, rfl⟩ := List.mem_map.1 hx
    rw [atI, List.getD_eq_getElem?_getD]
    cases h : q[y.toNat]? with
    | none => show _ ≤ (0 : Int) ∧ (0 : Int) ≤ _; omega
    | some z => exact hq z (List.mem_of_getElem? h)
  · intro x hx; cases hx
end Go.Proofs.Ytkcpemkahkkcmaa
namespace Go.Proofs.Ytkcpemkahkkcmaa
open Go.RowKit
def plist : List Int := [0, 1, 4, -1, 9223372036854775807]
theorem Ei_set {l : List Int} (h : Ei l) (j : Nat) {y : Int} (hy : -9223372036854775808 ≤ y ∧ y ≤ 9223372036854775807) : Ei (l.set j y) := fun x hx => by
  rcases List.mem_or_eq_of_mem_set hx with k | rfl
  · exact h x k
  · exact hy
theorem Ei_of {l : List Int} {n : Nat} (h : ∀ x ∈ l, 0 ≤ x ∧ x < (n : Int)) (hn : n ≤ 4) : Ei l := fun x hx => by have := h x hx; omega
attribute [local irreducible] World.cell?
set_option maxRecDepth 100000 in
set_option maxHeartbeats 6400000 in
theorem bentP (B : Nat) (w : World) (hcur : CurAt w B) (hB : B < w.heap.size) :
    Calls Try.prog 83 #[.pointer (some ⟨B, 0, none⟩)] w fun e w' => (∃ v l, e = .returned v ∧ List.length l ≤ 5 ∧ Ei l ∧ intE.Sl w' w.heap.size v l) ∧ CurAt w' B ∧ Own B w w' := by
  obtain ⟨i0, hi, hz0, hz1, hz2⟩ := info_parts infoInt
  go_enter Try.func83, Try.ntmps83
  go_wp2_with fail
  refine (below_any B 4 _ hcur (by omega) (by omega)).mono ?_
  rintro e w1 ⟨⟨x, x0, x1, rfl⟩, hc1, ho1⟩
  obtain ⟨n, rfl⟩ : ∃ n : Nat, x = n := ⟨x.toNat, by omega⟩
  have hs1 := ho1.size
  have Hc1 := Lib.hid hc1
  have Ho1 := Lib.hid ho1
  have HP := Lib.hid (permO_any B (1 + n) w1 hc1 (by omega) (by omega) (by omega))
  rw [show ((1 + n : Nat) : Int) = 1 + (n : Int) by simp] at HP
  clear hc1 ho1 hcur
  go_wp2_with fail
  refine (HP.out).mono ?_
  rintro e w2 ⟨⟨g, cap, l, rfl, hl, hbd, hg, hown⟩, hc2, ho2⟩
  have hs2 := ho2.size
  have Hc2 := Lib.hid hc2
  have Ho2 := Lib.hid (own_trans Ho1.out ho2)
  have He := Lib.hid (Ei_of (n := 1 + n) (l := l) (fun x hx => by have := hbd x hx; omega) (by omega))
  have Hown2 := Lib.hid (hown.mono (base' := w.heap.size) hs1)
  clear hc2 ho2 Hc1 Ho1 hown hbd HP
  go_wp2_with fail
  refine (below_any B 8 _ Hc2.out (by omega) (by omega)).mono ?_
  rintro e w3 ⟨⟨y, y0, y1, rfl⟩, hc3, ho3⟩
  have hs3 := ho3.size
  have Hown3 := Lib.hid (own_keep Hown2.out ho3 hB)
  have Hc3 := Lib.hid hc3
  have Ho3 := Lib.hid (own_trans Ho2.out ho3)
  have hgw : w.heap.size ≤ g := by omega
  clear hc3 ho3 Hc2 Ho2 Hown2
  have hcapl : 1 + n ≤ cap := by
    rcases Hown3.out.2 with ⟨h, _⟩ | ⟨g', cap', cur, hv, _, _, hn, _⟩
    · cases h
    · injection hv with _ _ e3; omega
  by_cases h0 : y = 0
  · subst h0
    go_wp2_with fail
    refine (below_any B (1 + (n : Int)) _ Hc3.out (by omega) (by omega)).mono ?_
    rintro e w4 ⟨⟨k, k0, k1, rfl⟩, hc4, ho4⟩
    obtain ⟨k, rfl⟩ : ∃ n : Nat, k = n := ⟨k.toNat, by omega⟩
    have hs4 := ho4.size
    have Hown4 := Lib.hid (own_keep Hown3.out ho4 hB)
    have Hc4 := Lib.hid (hc4.below (w' := w4.alloc (.cells #[.int .i64 0, .int .i64 1, .int .i64 4, .int .i64 (-1), .int .i64 9223372036854775807] 3)) (C := w4.heap.size) (by go_grown) (by omega))
    have Ho4 := Lib.hid (own_alloc (own_trans Ho3.out ho4) (.cells #[.int .i64 0, .int .i64 1, .int .i64 4, .int .i64 (-1), .int .i64 9223372036854775807] 3))
    have Hl4 := Lib.hid (show ListAt (w4.alloc (.cells #[.int .i64 0, .int .i64 1, .int .i64 4, .int .i64 (-1), .int .i64 9223372036854775807] 3)) w4.heap.size 5 (fun j => .int .i64 (plist.getD j 0)) from fun j hj => by
      have hb := heap_alloc_new w4 (.cells #[.int .i64 0, .int .i64 1, .int .i64 4, .int .i64 (-1), .int .i64 9223372036854775807] 3)
      rcases (show j = 0 ∨ j = 1 ∨ j = 2 ∨ j = 3 ∨ j = 4 by omega) with rfl | rfl | rfl | rfl | rfl <;> exact cell_at hb _ _ rfl)
    have HownA := Lib.hid (Hown4.out.alloc (.cells #[.int .i64 0, .int .i64 1, .int .i64 4, .int .i64 (-1), .int .i64 9223372036854775807] 3))
    clear hc4 ho4 Hc3 Ho3 Hown3 Hown4
    go_wp2_with fail
    refine (pickInt_any B w4.heap.size 5 _ (fun j => plist.getD j 0) _ Hc4.out Hl4.out (by omega) (by omega) (by omega)).mono ?_
    rintro e w5 ⟨⟨q, hq, rfl⟩, hc5, ho5⟩
    obtain ⟨z, hz⟩ : ∃ z, z = plist.getD q 0 := ⟨_, rfl⟩
    have hze : -9223372036854775808 ≤ z ∧ z ≤ 9223372036854775807 := by
      rw [hz]
      rcases (show q = 0 ∨ q = 1 ∨ q = 2 ∨ q = 3 ∨ q = 4 by omega) with rfl | rfl | rfl | rfl | rfl <;> decide
    have hs5 := ho5.size
    have Hown5 := Lib.hid (own_keep HownA.out ho5 hB)
    have hr5 := own_row Hown5.out hl
    obtain ⟨u, hu⟩ : ∃ u, l[k]? = some u := ⟨l[k]'(by omega), List.getElem?_eq_getElem _⟩
    have c0 := IRow.cell hr5 hu
    have f1 := fun o => hr5.free o
    have hgl := hr5.lt
    have Hr6 := Lib.hid (IRow.put hr5 (j := k) (by omega) z)
    have Ho5 := Lib.hid (own_trans Ho4.out ho5)
    have Ho6 := Lib.hid (own_dn Ho5.out k (.int .i64 z) hgw)
    have Hc6 := Lib.hid (hc5.own (C := g) (own_set (own_refl g w5) k (.int .i64 z)) (by omega))
    have hzs : plist.getD q 0 = z := hz.symm
    clear hc5 ho5 Hc4 Ho4 HownA hr5 hu Ho5 Hown5 hz Hl4
    simp only [hzs]
    go_wp2_with fail
    go_ret
    exact ⟨⟨_, l.set k z, rfl, by rw [List.length_set]; omega, Ei_set He.out k hze, Enc.Sl.mk (by rw [List.length_set, hl]) hcapl hgw Hr6.out⟩, Hc6.out, Ho6.out⟩
  · by_cases h1 : y = 1
    · subst h1
      go_wp2_with fail
      refine (below_any B (1 + (n : Int)) _ Hc3.out (by omega) (by omega)).mono ?_
      rintro e w4 ⟨⟨k, k0, k1, rfl⟩, hc4, ho4⟩
      obtain ⟨k, rfl⟩ : ∃ n : Nat, k = n := ⟨k.toNat, by omega⟩
      have hs4 := ho4.size
      have Hown4 := Lib.hid (own_keep Hown3.out ho4 hB)
      have Hr4 := Lib.hid ((own_row Hown4.out hl).take k)
      have Hc4 := Lib.hid hc4
      have Ho4 := Lib.hid (own_trans Ho3.out ho4)
      clear hc4 ho4 Hc3 Ho3 Hown3
      go_wp2_with fail
      go_ret
      exact ⟨⟨_, l.take k, rfl, by rw [List.length_take]; omega, fun x hx => He.out x (List.mem_of_mem_take hx), Enc.Sl.mk (by rw [List.length_take]; omega) (by omega) hgw Hr4.out⟩, Hc4.out, Ho4.out⟩
    · have e0 : (y == 0) = false := by simpa using h0
      have e1 : (y == 1) = false := by simpa using h1
      by_cases h2 : y = 2
      · subst h2
        have Hnew := Lib.hid (Enc.new_row (E := intE) w3 (1 + (n : Int)) #[.int .i64 (1 + (n : Int))] rfl)
        go_wp2_with (first
          | (at_builtin; refine wpList_append_own _ rfl _ _ 39 rfl w.heap.size 3 i0 (.int .i64 0) 1 8 Try.underlying39 hi hz0 hz1 hz2 rfl (by decide) _ _ _ rfl (Hown3.out.alloc _) ⟨w3.heap.size, 0, none⟩ 1 1 [.int .i64 (1 + (n : Int))] rfl rfl Hnew.out (one_int _) ?d3 ?d4 ?d5 ?_))
        case d3 => unfold maxLen; omega
        case d4 => omega
        case d5 => first | omega | (simp; omega)
        intro v' w4 hown' hgrow _
        have Hs4 := Lib.hid (Enc.Sl.of_own (E := intE) (l := l ++ [1 + (n : Int)]) (by rw [List.length_append, hl, intE.flat_app]; exact hown'))
        have Ho4 := Lib.hid (own_alloc Ho3.out (.cells #[.int .i64 (1 + (n : Int))] 3))
        have Ho5 := Lib.hid (show Own B w w4 from ⟨hgrow.os.trans Ho4.out.os, hgrow.tape.trans Ho4.out.tape, hgrow.output.trans Ho4.out.output, Nat.le_trans Ho4.out.size hgrow.size, fun k hk hne => (hgrow.block k (Nat.lt_of_lt_of_le hk Ho4.out.size) (by intro e; simp [Value.ownBlock] at e; omega)).trans (Ho4.out.block k hk hne)⟩)
        have Hc4 := Lib.hid (show CurAt w4 B from (Hc3.out.below (w' := w3.alloc (.cells #[.int .i64 (1 + (n : Int))] 3)) (C := w3.heap.size) (by go_grown) (by omega)).own (C := g) hgrow (by omega))
        clear hown' hgrow
        go_wp2_with fail
        go_ret
        exact ⟨⟨_, l ++ [1 + (n : Int)], rfl, by rw [List.length_append, hl]; simp; omega, fun x hx => by
          rcases List.mem_append.1 hx with h | h
          · exact He.out x h
          · simp at h; omega, Hs4.out⟩, Hc4.out, Ho5.out⟩
      · have e2 : (y == 2) = false := by simpa using h2
        have Hr3 := Lib.hid (own_row Hown3.out hl)
        go_wp2_with fail
        go_ret
        exact ⟨⟨_, l, rfl, by omega, He.out, Enc.Sl.mk hl.symm hcapl hgw Hr3.out⟩, Hc3.out, Ho3.out⟩
theorem own_sl {w : World} {base n : Nat} {v : Value} {l : List Int} (h : w.ownsRow base 3 1 v n (intE.flat l)) (hl : l.length = n) : intE.Sl w base v l := Enc.Sl.of_own (E := intE) (by rw [hl]; exact h)
theorem perm_sl (B : Nat) (x : Int) (w : World) (hcur : CurAt w B) (hB : B < w.heap.size) (x0 : 0 ≤ x) (x1 : x < 4) :
    Calls Try.prog 84 #[.pointer (some ⟨B, 0, none⟩), .int .i64 (1 + x)] w fun e w' => (∃ v l, e = .returned v ∧ List.length l ≤ 5 ∧ Ei l ∧ intE.Sl w' w.heap.size v l) ∧ CurAt w' B ∧ Own B w w' := by
  obtain ⟨n, rfl⟩ : ∃ n : Nat, x = n := ⟨x.toNat, by omega⟩
  have HP := permO_any B (1 + n) w hcur hB (by omega) (by omega)
  rw [show ((1 + n : Nat) : Int) = 1 + (n : Int) by simp] at HP
  refine HP.mono ?_
  rintro e w2 ⟨⟨g, cap, l, rfl, hl, hbd, hg, hown⟩, hc2, ho2⟩
  exact ⟨⟨_, l, rfl, by omega, Ei_of (n := 1 + n) (l := l) (fun x hx => by have := hbd x hx; omega) (by omega), own_sl hown hl⟩, hc2, ho2⟩
set_option maxRecDepth 100000 in
set_option maxHeartbeats 3200000 in
theorem drawCmpP (a0 : Option Addr) (len cap : Nat) (w : World) (hcode : CodeAt w w.heap.size a0 len) :
    Calls Try.prog 29 #[.slice a0 len cap] w fun e w' => (∃ u v p q, e = .returned (.tuple #[u, v]) ∧ List.length p ≤ 5 ∧ List.length q ≤ 5 ∧ Ei p ∧ Ei q ∧ intE.Sl w' w.heap.size u p ∧ intE.Sl w' w.heap.size v q) ∧ Below w.heap.size w w' := by
  have Hcode := Lib.hid hcode
  clear hcode
  go_enter Try.func29, Try.ntmps29
  go_wp2_with fail
  refine (new_any a0 len cap _ Hcode.out).mono ?_
  rintro e w1 ⟨rfl, hc1, hb1, hz1⟩
  have Hc1 := Lib.hid hc1
  have Hb1 := Lib.hid hb1
  clear hc1 hb1
  go_wp2_with fail
  refine (below_any w.heap.size 4 _ Hc1.out (by omega) (by omega)).mono ?_
  rintro e w2 ⟨⟨x, x0, x1, rfl⟩, hc2, ho2⟩
  have hs2 := ho2.size
  have Hc2 := Lib.hid hc2
  have Hb2 := Lib.hid (own_below Hb1.out ho2 (by omega))
  clear hc2 ho2 Hc1 Hb1
  go_wp2_with fail
  refine (once_any w.heap.size 4 _ Hc2.out (by omega) (by omega)).mono ?_
  rintro e w3 ⟨⟨t, rfl⟩, hc3, ho3⟩
  have hs3 := ho3.size
  have Hc3 := Lib.hid hc3
  have Hb3 := Lib.hid (own_below Hb2.out ho3 (by omega))
  clear hc3 ho3 Hc2 Hb2
  cases t with
  | true =>
    go_wp2_with fail
    refine (bentP w.heap.size _ Hc3.out (by omega)).mono ?_
    rintro e w4 ⟨⟨u, a, rfl, ha, ea, hd⟩, hc4, ho4⟩
    have hs4 := ho4.size
    have Hd := Lib.hid hd
    have Hc4 := Lib.hid hc4
    have Hb4 := Lib.hid (own_below Hb3.out ho4 (by omega))
    clear hd hc4 ho4 Hc3 Hb3
    go_wp2_with fail
    refine (bentP w.heap.size _ Hc4.out (by omega)).mono ?_
    rintro e w5 ⟨⟨v, b, rfl, hb, eb, hd⟩, hc5, ho5⟩
    have hs5 := ho5.size
    have Hd1 := Lib.hid (Hd.out.own ho5 (by omega))
    have Hd2 := Lib.hid hd
    have Hb5 := Lib.hid (own_below Hb4.out ho5 (by omega))
    clear hd hc5 ho5 Hc4 Hb4 Hd
    go_wp2_with fail
    go_returns
    exact ⟨⟨u, v, a, b, rfl, ha, hb, ea, eb, Hd1.out.mono (by omega), Hd2.out.mono (by omega)⟩, Hb5.out⟩
  | false =>
    go_wp2_with fail
    refine (perm_sl w.heap.size x _ Hc3.out (by omega) (by omega) (by omega)).mono ?_
    rintro e w4 ⟨⟨u, a, rfl, ha, ea, hd⟩, hc4, ho4⟩
    have hs4 := ho4.size
    have Hd := Lib.hid hd
    have Hc4 := Lib.hid hc4
    have Hb4 := Lib.hid (own_below Hb3.out ho4 (by omega))
    clear hd hc4 ho4 Hc3 Hb3
    go_wp2_with fail
    refine (perm_sl w.heap.size x _ Hc4.out (by omega) (by omega) (by omega)).mono ?_
    rintro e w5 ⟨⟨v, b, rfl, hb, eb, hd⟩, hc5, ho5⟩
    have hs5 := ho5.size
    have Hd1 := Lib.hid (Hd.out.own ho5 (by omega))
    have Hd2 := Lib.hid hd
    have Hb5 := Lib.hid (own_below Hb4.out ho5 (by omega))
    clear hd hc5 ho5 Hc4 Hb4 Hd
    go_wp2_with fail
    go_returns
    exact ⟨⟨u, v, a, b, rfl, ha, hb, ea, eb, Hd1.out.mono (by omega), Hd2.out.mono (by omega)⟩, Hb5.out⟩
set_option maxRecDepth 100000 in
set_option maxHeartbeats 1600000 in
theorem drawPm (a0 : Option Addr) (len cap : Nat) (w : World) (hcode : CodeAt w w.heap.size a0 len) :
    Calls Try.prog 33 #[.slice a0 len cap] w fun e w' => (∃ u p, e = .returned u ∧ List.length p ≤ 5 ∧ Ei p ∧ intE.Sl w' w.heap.size u p) ∧ Below w.heap.size w w' := by
  have Hcode := Lib.hid hcode
  clear hcode
  go_enter Try.func33, Try.ntmps33
  go_wp2_with fail
  refine (new_any a0 len cap _ Hcode.out).mono ?_
  rintro e w1 ⟨rfl, hc1, hb1, hz1⟩
  have Hc1 := Lib.hid hc1
  have Hb1 := Lib.hid hb1
  clear hc1 hb1
  go_wp2_with fail
  refine (bentP w.heap.size _ Hc1.out (by omega)).mono ?_
  rintro e w4 ⟨⟨u, a, rfl, ha, ea, hd⟩, hc4, ho4⟩
  have Hd := Lib.hid hd
  have Hb4 := Lib.hid (own_below Hb1.out ho4 (by omega))
  have hs1 := Hb1.out.size
  clear hd hc4 ho4 Hc1
  go_wp2_with fail
  go_ret
  exact ⟨⟨u, a, rfl, ha, ea, Hd.out.mono (by omega)⟩, Hb4.out⟩
end Go.Proofs.Ytkcpemkahkkcmaa
