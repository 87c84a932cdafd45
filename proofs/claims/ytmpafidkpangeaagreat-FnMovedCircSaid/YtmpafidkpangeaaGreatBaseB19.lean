/- BaseB19: several of our texts in one: PmKs PmKi PmD PmX PmB PmU. -/
import Derived.Test.YtmpafidkpangeaaGreatBaseB05
import Derived.Test.YtmpafidkpangeaaGreatBaseB21
import Derived.Test.YtmpafidkpangeaaGreatBaseB11
import Derived.Test.YtmpafidkpangeaaGreatBaseB14
import Derived.Laws.OwnMore
import Derived.Test.YtmpafidkpangeaaGreatBaseB20
import Derived.Test.YtmpafidkpangeaaGreatBaseB25
import Derived.Deep.Onto
namespace Go.Proofs.YtmpafidkpangeaaGreat
open Go.RowKit
theorem eq_takeI {a b : List Int} {j : Nat} {x y : Int} (hx : a[j]? = some x) (hy : b[j]? = some y) (h : a.take j = b.take j) (hxy : x = y) : a.take (j + 1) = b.take (j + 1) := by
  rw [List.take_add_one, List.take_add_one, h, hx, hy, hxy]
attribute [local irreducible] World.cell?
set_option maxRecDepth 100000 in
set_option maxHeartbeats 1600000 in
theorem islEqI (g g' cap cap' : Nat) (a b : List Int) (w : World) (ha : AR w g a) (hb : AR w g' b) (hl : a.length = b.length) (hm : a.length ≤ 1048576) :
    Calls Tryz.prog 140 #[.slice (some ⟨g, 0, none⟩) a.length cap, .slice (some ⟨g', 0, none⟩) a.length cap'] w fun e w' => e = .returned (.bool (decide (a = b))) ∧ Below w.heap.size w w' := by
  have Ha := Lib.hid ha
  have Hb := Lib.hid hb
  have hga := ha.lt
  have hgb := hb.lt
  have hd2 : ((a.length : Int) != a.length) = false := by simp
  obtain ⟨T, hT⟩ : ∃ T, T = decide (a = b) := ⟨_, rfl⟩
  rw [← hT]
  have HT := Lib.hid hT
  clear hT ha hb
  go_enter Tryz.func140, Tryz.ntmps140
  go_wp2_with fail
  go_loopw [13] (fun i wr => ∃ j : Nat, j ≤ a.length ∧ i = .int .i64 j ∧ Hid (a.take j = b.take j) ∧ Hid (Below w.heap.size w wr)) (fun i _ => a.length - (intOf i).toNat)
  case atStart => exact ⟨0, Nat.zero_le _, rfl, Lib.hid rfl, Below.refl _ _⟩
  case round =>
    obtain ⟨j, hj, rfl, Heq, Hbl⟩ := hrel
    by_cases hlt : j < a.length
    · obtain ⟨x, hx⟩ : ∃ x, a[j]? = some x := ⟨a[j], List.getElem?_eq_getElem hlt⟩
      obtain ⟨y, hy⟩ : ∃ y, b[j]? = some y := ⟨b[j]'(by omega), List.getElem?_eq_getElem (by omega)⟩
      have c0 := (Ha.out.block (Hbl.out.block _ hga)).cell hx
      have c1 := (Hb.out.block (Hbl.out.block _ hgb)).cell hy
      have Hx := Lib.hid hx
      have Hy := Lib.hid hy
      clear hx hy
      go_upto_region 6 with fail
      by_cases hxy : x = y
      · have hne : (x != y) = false := by rw [hxy]; simp
        have Hxy := Lib.hid hxy
        clear hxy
        go_quiet (fail)
        go_wp2_with fail
        go_roundw
        case rel => exact ⟨j + 1, by omega, by go_num, Lib.hid (eq_takeI Hx.out Hy.out Heq.out Hxy.out), below_dn Hbl.out _⟩
        case measure => simp [intOf]; omega
      · have hne : (x != y) = true := by simpa using hxy
        have hF : a ≠ b := fun h => hxy (by have h1 := Hx.out; rw [h, Hy.out] at h1; injection h1 with h1; exact h1.symm)
        obtain rfl : T = false := HT.out.trans (decide_eq_false hF)
        clear hF hxy
        go_quiet (fail)
        go_wp2_with fail
        go_ret
        exact ⟨rfl, below_dn Hbl.out _⟩
    · obtain rfl : j = a.length := by omega
      have hE := Heq.out
      rw [List.take_length, List.take_of_length_le (by omega)] at hE
      obtain rfl : T = true := HT.out.trans (decide_eq_true hE)
      go_wp2_with fail
      go_ret
      exact ⟨rfl, Hbl.out⟩
end Go.Proofs.YtmpafidkpangeaaGreat
namespace Go.Proofs.YtmpafidkpangeaaGreat
open Go.RowKit
attribute [local irreducible] World.cell?
set_option maxRecDepth 100000 in
set_option maxHeartbeats 1600000 in
theorem iidP_yes (m : Nat) (w : World) (h1 : 1 ≤ m) (h4 : m ≤ 4) :
    Calls Tryz.prog 141 #[.int .i64 m] w fun e w' => e = .returned (.slice (some ⟨w.heap.size, 0, none⟩) m m) ∧ intE.Row w' w.heap.size (upI m) ∧ Below w.heap.size w w' := by
  obtain ⟨i0, hi, hz0, hz1, hz2⟩ := info_parts infoInt
  have Hq := Lib.hid (fun w => iisq_yes m w (by omega))
  go_enter Tryz.func141, Tryz.ntmps141
  go_wp2_with fail
  refine (Hq.out _).mono ?_
  rintro e w0 ⟨rfl, rfl⟩
  go_wp2_with (first | (at_make; refine wpList_make_full _ rfl _ _ 46 rfl w.heap.size 3 i0 (.int .i64 0) 1 Tryz.underlying46 hi hz0 hz1 .i64 .i64 m m m rfl rfl rfl rfl (by rw [hz2]; omega) (by unfold maxLen; omega) (Nat.le_refl _) ?_))
  intro w1 hown hgrow
  have hb1 : Below w.heap.size w w1 := (Below.refl _ _).grown hgrow (Nat.le_refl _) (fun k hk => by cases hk)
  have hrow1 : intE.Row w1 w.heap.size (upZ m 0) := by
    rcases hown.2 with ⟨h, _⟩ | ⟨g, cap, cur, hv, hb, hg, _, _, hs, ht⟩
    · cases h
    · obtain ⟨rfl, rfl⟩ : g = w.heap.size ∧ cap = m := by injection hv with hv _ hv2; injection hv with hv; injection hv with hv; exact ⟨hv.symm, hv2.symm⟩
      refine ⟨cur, hg, ?_⟩
      rw [upZ_zero, List.length_replicate, ← made_ints]
      first | exact ht | simpa [intE] using ht
  have Hb1 := Lib.hid hb1
  have Hrow1 := Lib.hid hrow1
  clear hown hgrow hb1 hrow1
  go_wp2_with fail
  go_loopg [12] m (fun n i wr => ∃ j : Nat, n = m - j ∧ j ≤ m ∧ i = .int .i64 j ∧ Hid (intE.Row wr w.heap.size (upZ m j)) ∧ Hid (Below w.heap.size w wr))
  case atStart => exact ⟨0, rfl, Nat.zero_le _, rfl, Hrow1, Hb1⟩
  case round =>
    obtain ⟨j, rfl, hj, rfl, Hrow, Hb⟩ := hrel
    by_cases hlt : j < m
    · have hl := upZ_len hj
      obtain ⟨z, hz⟩ : ∃ z, (upZ m j)[j]? = some z := ⟨(upZ m j)[j]'(by omega), List.getElem?_eq_getElem _⟩
      have e0 := IRow.cell Hrow.out hz
      have f1 := fun o => Hrow.out.free o
      have hgl := Hrow.out.lt
      have hr3 := IRow.put Hrow.out (j := j) (by omega) (j : Int)
      rw [upZ_step hlt] at hr3
      have Hr3 := Lib.hid hr3
      clear hr3 hz Hrow
      go_wp2_with fail
      go_roundg (m - (j + 1))
      case measure => omega
      case rel =>
        refine ⟨j + 1, rfl, by omega, by go_num, by simpa using Hr3, ?_⟩
        have := Hb.out
        show Below _ _ _
        go_grown
    · obtain rfl : j = m := by omega
      have hrow := Hrow.out
      rw [upZ_all] at hrow
      have Hrow := Lib.hid hrow
      clear hrow
      go_wp2_with fail
      go_ret
      exact ⟨rfl, Hrow.out, Hb.out⟩
end Go.Proofs.YtmpafidkpangeaaGreat
namespace Go.Proofs.YtmpafidkpangeaaGreat
open Go.RowKit
theorem own_keep {w w' : World} {base B n size : Nat} {e : TypeId} {v : Value} {xs : List Value} (h : w.ownsRow base e size v n xs) (ho : Own B w w') (hB : B < base) : w'.ownsRow base e size v n xs := by
  refine ⟨h.1, ?_⟩
  rcases h.2 with h1 | ⟨g, cap, cur, hv, hb, hg, r⟩
  · exact .inl h1
  · exact .inr ⟨g, cap, cur, hv, hb, by rw [ho.block g (lt_of_block hg) (by intro e; injection e with e; omega)]; exact hg, r⟩
theorem own_row {w : World} {base n cap g : Nat} {l : List Int} (h : w.ownsRow base 3 1 (.slice (some ⟨g, 0, none⟩) n cap) n (intE.flat l)) (hl : l.length = n) : intE.Row w g l := by
  rcases h.2 with ⟨h1, _⟩ | ⟨g', cap', cur, hv, hb, hg, hn, hc, hs, ht⟩
  · cases h1
  · injection hv with e1 e2 e3
    injection e1 with e1
    injection e1 with e1
    subst e1
    exact ⟨cur, hg, by rw [hl]; exact ht⟩
theorem own_put {w : World} {base n cap g j : Nat} {l : List Int} (h : w.ownsRow base 3 1 (.slice (some ⟨g, 0, none⟩) n cap) n (intE.flat l)) (hj : j < l.length) (y : Int) : (w.setCell ⟨g, j, none⟩ (.int .i64 y)).ownsRow base 3 1 (.slice (some ⟨g, 0, none⟩) n cap) n (intE.flat (l.set j y)) := by
  have h1 := (h.stored j (.int .i64 y)).1
  have h2 := intE.flat_set1 (j := j) (x := l[j]) (y := y) (o := 0) (v := .int .i64 y) (List.getElem?_eq_getElem hj) (by simp [intE]) rfl
  rw [show j * intE.n + 0 = j from by simp [intE]] at h2
  rwa [h2] at h1
attribute [local irreducible] World.cell?
set_option maxRecDepth 100000 in
set_option maxHeartbeats 1600000 in
theorem sidO_yes (n : Nat) (w : World) (h1 : 1 ≤ n) (h4 : n ≤ 4) :
    Calls Tryz.prog 138 #[.int .i64 n] w fun e w' => ∃ g cap, e = .returned (.slice (some ⟨g, 0, none⟩) n cap) ∧ w.heap.size ≤ g ∧ w'.ownsRow w.heap.size 3 1 (.slice (some ⟨g, 0, none⟩) n cap) n (intE.flat (upL n)) ∧ Below w.heap.size w w' := by
  obtain ⟨i0, hi, hz0, hz1, hz2⟩ := info_parts infoInt
  have H1 := Lib.hid (fun w => lin_any n 1 4 true w (by simp; omega))
  go_enter Tryz.func138, Tryz.ntmps138
  go_wp2_with fail
  go_loopg [3, 4] n (fun k out i wr => ∃ j : Nat, k = n - j ∧ j ≤ n ∧ i = .int .i64 j ∧ Hid (wr.ownsRow w.heap.size 3 1 out j (intE.flat (upL j))) ∧ Hid (Below w.heap.size w wr))
  case atStart => exact ⟨0, rfl, Nat.zero_le _, rfl, Lib.hid (Enc.own_nil (E := intE) rfl), Lib.hid (by go_grown)⟩
  case round =>
    obtain ⟨j, rfl, hj, rfl, Hown, Hb⟩ := hrel
    have hs := Hb.out.size
    by_cases hlt : j < n
    · have hd : decide ((j : Int) < n) = true := decide_eq_true (by omega)
      have Hstep := Lib.hid (show intE.flat (upL j) ++ [.int .i64 (j : Int)] = intE.flat (upL (j + 1)) by rw [upL_snoc, intE.flat_app]; rfl)
      have Hnew := Lib.hid (Enc.new_row (E := intE) wr (j : Int) #[.int .i64 (j : Int)] rfl)
      go_wp2_with fail
      refine (H1.out _).mono ?_
      rintro e w2 ⟨rfl, rfl⟩
      go_wp2_with (first
        | (at_builtin; refine wpList_append_own _ rfl _ _ 46 rfl w.heap.size 3 i0 (.int .i64 0) 1 8 Tryz.underlying46 hi hz0 hz1 hz2 rfl (by decide) _ _ _ rfl (Hown.out.alloc _) ⟨wr.heap.size, 0, none⟩ 1 1 [.int .i64 (j : Int)] rfl rfl Hnew.out (one_int _) ?d3 ?d4 ?d5 ?_))
      case d3 => unfold maxLen; omega
      case d4 => omega
      case d5 => first | omega | (simp; omega)
      intro v' w4 hown' hgrow _
      have HB4 := Lib.hid ((Hb.out.alloc hs (.cells #[.int .i64 (j : Int)] 3)).grown hgrow (by simp; omega) (fun q hq => by have := Hown.out.lt q hq; omega))
      rw [Hstep.out] at hown'
      have Hown4 := Lib.hid hown'
      clear hown' hgrow
      go_wp2_with fail
      go_roundg (n - (j + 1))
      case measure => omega
      case rel => exact ⟨j + 1, rfl, by omega, by go_num, Hown4, HB4⟩
    · obtain rfl : j = n := by omega
      have hd : decide ((j : Int) < j) = false := by simp
      have hown := Hown.out
      rcases hown.2 with ⟨_, h0⟩ | ⟨g, cap, cur, hv, hg, _⟩
      · omega
      subst hv
      have Hout := Lib.hid hown
      clear hown
      go_wp2_with fail
      refine (H1.out _).mono ?_
      rintro e w2 ⟨rfl, rfl⟩
      go_wp2_with fail
      go_ret
      exact ⟨g, cap, rfl, hg, Hout.out, Hb.out⟩
set_option maxRecDepth 100000 in
set_option maxHeartbeats 3200000 in
theorem permO_any (B n : Nat) (w : World) (hcur : CurAt w B) (hB : B < w.heap.size) (h1 : 1 ≤ n) (h4 : n ≤ 4) :
    Calls Tryz.prog 69 #[.pointer (some ⟨B, 0, none⟩), .int .i64 n] w fun e w' => (∃ g cap l, e = .returned (.slice (some ⟨g, 0, none⟩) n cap) ∧ List.length l = n ∧ (∀ x ∈ l, 0 ≤ x ∧ x < (n : Int)) ∧ w.heap.size ≤ g ∧ w'.ownsRow w.heap.size 3 1 (.slice (some ⟨g, 0, none⟩) n cap) n (intE.flat l)) ∧ CurAt w' B ∧ Own B w w' := by
  go_enter Tryz.func69, Tryz.ntmps69
  go_wp2_with fail
  refine (sidO_yes n _ h1 h4).mono ?_
  rintro e w1 ⟨g, cap, rfl, hg, hown, hb1⟩
  have Hc1 := Lib.hid (hcur.below hb1 hB)
  have Ho1 := Lib.hid (show Own B w w1 from own_of_below hb1)
  have hs1 := hb1.size
  have Hown1 := Lib.hid hown
  clear hb1 hown hcur
  go_wp2_with fail
  go_loopg [6] (n - 1) (fun n' i wr => ∃ (k : Nat) (l : List Int), k = n' ∧ i = .int .i64 (k : Int) ∧ k < n ∧ l.length = n ∧ Hid (∀ x ∈ l, 0 ≤ x ∧ x < (n : Int)) ∧ Hid (wr.ownsRow w.heap.size 3 1 (.slice (some ⟨g, 0, none⟩) n cap) n (intE.flat l)) ∧ Hid (CurAt wr B) ∧ Hid (Own B w wr) ∧ g < wr.heap.size)
  case atStart => exact ⟨n - 1, upL n, rfl, by congr 1; omega, by omega, upL_len n, Lib.hid (fun x hx => upL_mem hx), Hown1, Hc1, Ho1, (own_row Hown1.out (upL_len n)).lt⟩
  case round =>
    obtain ⟨k, l, rfl, rfl, hk, hl, Hbd, Hr, Hc, Ho, hgl⟩ := hrel
    by_cases h0 : k = 0
    · subst h0
      go_wp2_with fail
      go_ret
      exact ⟨⟨g, cap, l, rfl, hl, Hbd.out, hg, Hr.out⟩, Hc.out, Ho.out⟩
    · obtain ⟨m, rfl⟩ : ∃ m, k = m + 1 := ⟨k - 1, by omega⟩
      have hgw : w.heap.size ≤ g := hg
      go_wp2_with fail
      refine (below_any B ((m : Int) + 1 + 1) _ Hc.out (by omega) (by omega)).mono ?_
      rintro e w2 ⟨⟨x, x0, x1, rfl⟩, hc2, ho2⟩
      obtain ⟨q, rfl⟩ : ∃ q : Nat, x = q := ⟨x.toNat, by omega⟩
      have hq : q < n := by omega
      have Ho1' := Lib.hid (own_keep Hr.out ho2 hB)
      have hr2 := own_row Ho1'.out hl
      have Ho2 := Lib.hid (own_trans Ho.out ho2)
      have hs2 := ho2.size
      obtain ⟨a, ha⟩ : ∃ a, l[m + 1]? = some a := ⟨l[m + 1], List.getElem?_eq_getElem (by omega)⟩
      obtain ⟨b, hb⟩ : ∃ b, l[q]? = some b := ⟨l[q], List.getElem?_eq_getElem (by omega)⟩
      have ca := IRow.cell hr2 ha
      have cb := IRow.cell hr2 hb
      have f1 := fun o => hr2.free o
      have Hr3 := Lib.hid (own_put (own_put Ho1'.out (j := m + 1) (by omega) b) (j := q) (by simp; omega) a)
      have Hc3 := Lib.hid (hc2.own (C := g) (own_set (own_set (own_refl g w2) (m + 1) (.int .i64 b)) q (.int .i64 a)) (by omega))
      have Ho3 := Lib.hid (own_dn (own_dn Ho2.out (m + 1) (.int .i64 b) hgw) q (.int .i64 a) hgw)
      have hba := Hbd.out a (List.mem_of_getElem? ha)
      have hbb := Hbd.out b (List.mem_of_getElem? hb)
      have Hbd3 := Lib.hid (show ∀ x ∈ (l.set (m + 1) b).set q a, 0 ≤ x ∧ x < (n : Int) from fun x hx => by
        rcases List.mem_or_eq_of_mem_set hx with h | rfl
        · rcases List.mem_or_eq_of_mem_set h with h | rfl
          · exact Hbd.out x h
          · exact hbb
        · exact hba)
      have Hab := Lib.hid (fun (e : q = m + 1) => show b = a by subst e; rw [ha] at hb; injection hb with hb; exact hb.symm)
      clear hr2 hc2 ho2 Hr Hc Ho ha hb hba hbb Hbd Ho1' Ho2
      by_cases hqm : q = m + 1
      · obtain rfl := Hab.out hqm
        subst hqm
        go_wp2_with fail
        go_roundg m
        case measure => omega
        case rel => exact ⟨m, _, rfl, by go_num, by omega, by simpa using hl, Hbd3, Hr3, Hc3, Ho3, by simp [World.setCell]; omega⟩
      · go_wp2_with fail
        go_roundg m
        case measure => omega
        case rel => exact ⟨m, _, rfl, by go_num, by omega, by simpa using hl, Hbd3, Hr3, Hc3, Ho3, by simp [World.setCell]; omega⟩
end Go.Proofs.YtmpafidkpangeaaGreat
namespace Go.Proofs.YtmpafidkpangeaaGreat
open Go.RowKit
end Go.Proofs.YtmpafidkpangeaaGreat
namespace Go.Proofs.YtmpafidkpangeaaGreat
open Go.RowKit
def plist : List Int := [0, 1, 4, -1, 9223372036854775807]
theorem Ei_set {l : List Int} (h : Ei l) (j : Nat) {y : Int} (hy : -9223372036854775808 ≤ y ∧ y ≤ 9223372036854775807) : Ei (l.set j y) := fun x hx => by
  rcases List.mem_or_eq_of_mem_set hx with k | rfl
  · exact h x k
  · exact hy
theorem Ei_of {l : List Int} {n : Nat} (h : ∀ x ∈ l, 0 ≤ x ∧ x < (n : Int)) (hn : n ≤ 4) : Ei l := fun x hx => by have := h x hx; omega
attribute [local irreducible] World.cell?
set_option maxRecDepth 100000 in
set_option maxHeartbeats 6400000 in
theorem bentP (B : Nat) (w : World) (hcur : CurAt w B) (hB : B < w.heap.size) :
    Calls Tryz.prog 70 #[.pointer (some ⟨B, 0, none⟩)] w fun e w' => (∃ v l, e = .returned v ∧ List.length l ≤ 5 ∧ Ei l ∧ intE.Sl w' w.heap.size v l) ∧ CurAt w' B ∧ Own B w w' := by
  obtain ⟨i0, hi, hz0, hz1, hz2⟩ := info_parts infoInt
  go_enter Tryz.func70, Tryz.ntmps70
  go_wp2_with fail
  refine (below_any B 4 _ hcur (by omega) (by omega)).mono ?_
  rintro e w1 ⟨⟨x, x0, x1, rfl⟩, hc1, ho1⟩
  obtain ⟨n, rfl⟩ : ∃ n : Nat, x = n := ⟨x.toNat, by omega⟩
  have hs1 := ho1.size
  have Hc1 := Lib.hid hc1
  have Ho1 := Lib.hid ho1
  have HP := Lib.hid (permO_any B (1 + n) w1 hc1 (by omega) (by omega) (by omega))
  rw [show ((1 + n : Nat) : Int) = 1 + (n : Int) by simp] at HP
  clear hc1 ho1 hcur
  go_wp2_with fail
  refine (HP.out).mono ?_
  rintro e w2 ⟨⟨g, cap, l, rfl, hl, hbd, hg, hown⟩, hc2, ho2⟩
  have hs2 := ho2.size
  have Hc2 := Lib.hid hc2
  have Ho2 := Lib.hid (own_trans Ho1.out ho2)
  have He := Lib.hid (Ei_of (n := 1 + n) (l := l) (fun x hx => by have := hbd x hx; omega) (by omega))
  have Hown2 := Lib.hid (hown.mono (base' := w.heap.size) hs1)
  clear hc2 ho2 Hc1 Ho1 hown hbd HP
  go_wp2_with fail
  refine (below_any B 8 _ Hc2.out (by omega) (by omega)).mono ?_
  rintro e w3 ⟨⟨y, y0, y1, rfl⟩, hc3, ho3⟩
  have hs3 := ho3.size
  have Hown3 := Lib.hid (own_keep Hown2.out ho3 hB)
  have Hc3 := Lib.hid hc3
  have Ho3 := Lib.hid (own_trans Ho2.out ho3)
  have hgw : w.heap.size ≤ g := by omega
  clear hc3 ho3 Hc2 Ho2 Hown2
  have hcapl : 1 + n ≤ cap := by
    rcases Hown3.out.2 with ⟨h, _⟩ | ⟨g', cap', cur, hv, _, _, hn, _⟩
    · cases h
    · injection hv with _ _ e3; omega
  by_cases h0 : y = 0
  · subst h0
    go_wp2_with fail
    refine (below_any B (1 + (n : Int)) _ Hc3.out (by omega) (by omega)).mono ?_
    rintro e w4 ⟨⟨k, k0, k1, rfl⟩, hc4, ho4⟩
    obtain ⟨k, rfl⟩ : ∃ n : Nat, k = n := ⟨k.toNat, by omega⟩
    have hs4 := ho4.size
    have Hown4 := Lib.hid (own_keep Hown3.out ho4 hB)
    have Hc4 := Lib.hid (hc4.below (w' := w4.alloc (.cells #[.int .i64 0, .int .i64 1, .int .i64 4, .int .i64 (-1), .int .i64 9223372036854775807] 3)) (C := w4.heap.size) (by go_grown) (by omega))
    have Ho4 := Lib.hid (own_alloc (own_trans Ho3.out ho4) (.cells #[.int .i64 0, .int .i64 1, .int .i64 4, .int .i64 (-1), .int .i64 9223372036854775807] 3))
    have Hl4 := Lib.hid (show ListAt (w4.alloc (.cells #[.int .i64 0, .int .i64 1, .int .i64 4, .int .i64 (-1), .int .i64 9223372036854775807] 3)) w4.heap.size 5 (fun j => .int .i64 (plist.getD j 0)) from fun j hj => by
      have hb := heap_alloc_new w4 (.cells #[.int .i64 0, .int .i64 1, .int .i64 4, .int .i64 (-1), .int .i64 9223372036854775807] 3)
      rcases (show j = 0 ∨ j = 1 ∨ j = 2 ∨ j = 3 ∨ j = 4 by omega) with rfl | rfl | rfl | rfl | rfl <;> exact cell_at hb _ _ rfl)
    have HownA := Lib.hid (Hown4.out.alloc (.cells #[.int .i64 0, .int .i64 1, .int .i64 4, .int .i64 (-1), .int .i64 9223372036854775807] 3))
    clear hc4 ho4 Hc3 Ho3 Hown3 Hown4
    go_wp2_with fail
    refine (pickInt_any B w4.heap.size 5 _ (fun j => plist.getD j 0) _ Hc4.out Hl4.out (by omega) (by omega) (by omega)).mono ?_
    rintro e w5 ⟨⟨q, hq, rfl⟩, hc5, ho5⟩
    obtain ⟨z, hz⟩ : ∃ z, z = plist.getD q 0 := ⟨_, rfl⟩
    have hze : -9223372036854775808 ≤ z ∧ z ≤ 9223372036854775807 := by
      rw [hz]
      rcases (show q = 0 ∨ q = 1 ∨ q = 2 ∨ q = 3 ∨ q = 4 by omega) with rfl | rfl | rfl | rfl | rfl <;> decide
    have hs5 := ho5.size
    have Hown5 := Lib.hid (own_keep HownA.out ho5 hB)
    have hr5 := own_row Hown5.out hl
    obtain ⟨u, hu⟩ : ∃ u, l[k]? = some u := ⟨l[k]'(by omega), List.getElem?_eq_getElem _⟩
    have c0 := IRow.cell hr5 hu
    have f1 := fun o => hr5.free o
    have hgl := hr5.lt
    have Hr6 := Lib.hid (IRow.put hr5 (j := k) (by omega) z)
    have Ho5 := Lib.hid (own_trans Ho4.out ho5)
    have Ho6 := Lib.hid (own_dn Ho5.out k (.int .i64 z) hgw)
    have Hc6 := Lib.hid (hc5.own (C := g) (own_set (own_refl g w5) k (.int .i64 z)) (by omega))
    have hzs : plist.getD q 0 = z := hz.symm
    clear hc5 ho5 Hc4 Ho4 HownA hr5 hu Ho5 Hown5 hz Hl4
    simp only [hzs]
    go_wp2_with fail
    go_ret
    exact ⟨⟨_, l.set k z, rfl, by rw [List.length_set]; omega, Ei_set He.out k hze, Enc.Sl.mk (by rw [List.length_set, hl]) hcapl hgw Hr6.out⟩, Hc6.out, Ho6.out⟩
  · by_cases h1 : y = 1
    · subst h1
      go_wp2_with fail
      refine (below_any B (1 + (n : Int)) _ Hc3.out (by omega) (by omega)).mono ?_
      rintro e w4 ⟨⟨k, k0, k1, rfl⟩, hc4, ho4⟩
      obtain ⟨k, rfl⟩ : ∃ n : Nat, k = n := ⟨k.toNat, by omega⟩
      have hs4 := ho4.size
      have Hown4 := Lib.hid (own_keep Hown3.out ho4 hB)
      have Hr4 := Lib.hid ((own_row Hown4.out hl).take k)
      have Hc4 := Lib.hid hc4
      have Ho4 := Lib.hid (own_trans Ho3.out ho4)
      clear hc4 ho4 Hc3 Ho3 Hown3
      go_wp2_with fail
      go_ret
      exact ⟨⟨_, l.take k, rfl, by rw [List.length_take]; omega, fun x hx => He.out x (List.mem_of_mem_take hx), Enc.Sl.mk (by rw [List.length_take]; omega) (by omega) hgw Hr4.out⟩, Hc4.out, Ho4.out⟩
    · have e0 : (y == 0) = false := by simpa using h0
      have e1 : (y == 1) = false := by simpa using h1
      by_cases h2 : y = 2
      · subst h2
        have Hnew := Lib.hid (Enc.new_row (E := intE) w3 (1 + (n : Int)) #[.int .i64 (1 + (n : Int))] rfl)
        go_wp2_with (first
          | (at_builtin; refine wpList_append_own _ rfl _ _ 46 rfl w.heap.size 3 i0 (.int .i64 0) 1 8 Tryz.underlying46 hi hz0 hz1 hz2 rfl (by decide) _ _ _ rfl (Hown3.out.alloc _) ⟨w3.heap.size, 0, none⟩ 1 1 [.int .i64 (1 + (n : Int))] rfl rfl Hnew.out (one_int _) ?d3 ?d4 ?d5 ?_))
        case d3 => unfold maxLen; omega
        case d4 => omega
        case d5 => first | omega | (simp; omega)
        intro v' w4 hown' hgrow _
        have Hs4 := Lib.hid (Enc.Sl.of_own (E := intE) (l := l ++ [1 + (n : Int)]) (by rw [List.length_append, hl, intE.flat_app]; exact hown'))
        have Ho4 := Lib.hid (own_alloc Ho3.out (.cells #[.int .i64 (1 + (n : Int))] 3))
        have Ho5 := Lib.hid (show Own B w w4 from ⟨hgrow.os.trans Ho4.out.os, hgrow.tape.trans Ho4.out.tape, hgrow.output.trans Ho4.out.output, Nat.le_trans Ho4.out.size hgrow.size, fun k hk hne => (hgrow.block k (Nat.lt_of_lt_of_le hk Ho4.out.size) (by intro e; simp [Value.ownBlock] at e; omega)).trans (Ho4.out.block k hk hne)⟩)
        have Hc4 := Lib.hid (show CurAt w4 B from (Hc3.out.below (w' := w3.alloc (.cells #[.int .i64 (1 + (n : Int))] 3)) (C := w3.heap.size) (by go_grown) (by omega)).own (C := g) hgrow (by omega))
        clear hown' hgrow
        go_wp2_with fail
        go_ret
        exact ⟨⟨_, l ++ [1 + (n : Int)], rfl, by rw [List.length_append, hl]; simp; omega, fun x hx => by
          rcases List.mem_append.1 hx with h | h
          · exact He.out x h
          · simp at h; omega, Hs4.out⟩, Hc4.out, Ho5.out⟩
      · have e2 : (y == 2) = false := by simpa using h2
        have Hr3 := Lib.hid (own_row Hown3.out hl)
        go_wp2_with fail
        go_ret
        exact ⟨⟨_, l, rfl, by omega, He.out, Enc.Sl.mk hl.symm hcapl hgw Hr3.out⟩, Hc3.out, Ho3.out⟩
theorem own_sl {w : World} {base n : Nat} {v : Value} {l : List Int} (h : w.ownsRow base 3 1 v n (intE.flat l)) (hl : l.length = n) : intE.Sl w base v l := Enc.Sl.of_own (E := intE) (by rw [hl]; exact h)
theorem perm_sl (B : Nat) (x : Int) (w : World) (hcur : CurAt w B) (hB : B < w.heap.size) (x0 : 0 ≤ x) (x1 : x < 4) :
    Calls Tryz.prog 69 #[.pointer (some ⟨B, 0, none⟩), .int .i64 (1 + x)] w fun e w' => (∃ v l, e = .returned v ∧ List.length l ≤ 5 ∧ Ei l ∧ intE.Sl w' w.heap.size v l) ∧ CurAt w' B ∧ Own B w w' := by
  obtain ⟨n, rfl⟩ : ∃ n : Nat, x = n := ⟨x.toNat, by omega⟩
  have HP := permO_any B (1 + n) w hcur hB (by omega) (by omega)
  rw [show ((1 + n : Nat) : Int) = 1 + (n : Int) by simp] at HP
  refine HP.mono ?_
  rintro e w2 ⟨⟨g, cap, l, rfl, hl, hbd, hg, hown⟩, hc2, ho2⟩
  exact ⟨⟨_, l, rfl, by omega, Ei_of (n := 1 + n) (l := l) (fun x hx => by have := hbd x hx; omega) (by omega), own_sl hown hl⟩, hc2, ho2⟩
end Go.Proofs.YtmpafidkpangeaaGreat
namespace Go.Proofs.YtmpafidkpangeaaGreat
open Go.RowKit
theorem pmL_len (p : List Int) : (pmL p).length = 2 ^ p.length := by rw [pmL, List.length_map, List.length_range]
theorem pmL_step {p : List Int} {j : Nat} (hj : j < 2 ^ p.length) : (pmL p).take (j + 1) = (pmL p).take j ++ [basisL (p.length : Int) (pix p (j : Int))] := by
  rw [List.take_add_one, pmL, List.getElem?_map, List.getElem?_range hj]
  rfl
theorem basis_lenP {n i : Int} (h : 1 ≤ n ∧ n ≤ 4) (h' : 0 ≤ i ∧ i ≤ 2 ^ n.toNat - 1) : (basisL n i).length = 2 ^ n.toNat := by
  unfold basisL
  rw [if_pos ⟨h.1, h.2, h'.1, h'.2⟩, List.length_set, List.length_replicate]
theorem pix_all : allP.all (fun p => (List.range (2 ^ p.length)).all fun i => decide (0 ≤ pix p (i : Int) ∧ pix p (i : Int) ≤ 2 ^ p.length - 1)) = true := by decide +kernel
theorem pix_in {p : List Int} (h : permB p = true) {i : Nat} (hi : i < 2 ^ p.length) : 0 ≤ pix p (i : Int) ∧ pix p (i : Int) ≤ 2 ^ p.length - 1 := by
  have h1 := List.all_eq_true.1 (List.all_eq_true.1 pix_all p (perm_mem h)) i (List.mem_range.2 hi)
  exact of_decide_eq_true h1
theorem pmL_rows {p : List Int} (h : permB p = true) : ∀ r ∈ pmL p, (pmL p).length ≤ r.length := by
  intro r hr
  obtain ⟨i, hi, rfl⟩ := List.mem_map.1 hr
  have hl := (permB_iff.1 h).2
  rw [pmL_len, basis_lenP (by omega) (by rw [Int.toNat_natCast]; exact pix_in h (List.mem_range.1 hi)), Int.toNat_natCast]
  exact Nat.le_refl _
attribute [local irreducible] World.cell?
set_option maxRecDepth 100000 in
set_option maxHeartbeats 3200000 in
theorem spm1 (B : Nat) (v : Value) (p : List Int) (w : World) (hv : intE.Sl w B v p) (hep : Ei p) (hP : permB p = true) (hl : p.length = 1) :
    Calls Tryz.prog 27 #[v] w fun e w' => ∃ u, e = .returned u ∧ DSM w' w.heap.size w'.heap.size u (pmM p) ∧ Below w.heap.size w w' := by
  obtain ⟨i0, hi, hz0, hz1, hz2⟩ := info_parts infoDs
  have Hv := Lib.hid hv
  have H1 := Lib.hid (fun W (h : intE.Sl W B v p) => sisP B v p W h hep (by omega))
  rw [hP] at H1
  have H2 := Lib.hid (fun (j : Nat) (hj : j < 2) W (h : intE.Sl W B v p) => spix B v p (j : Int) W h hep (by omega) (by omega) (by omega))
  have H3 := Lib.hid (fun (x : Int) W => sbasis 1 x W)
  have Hst := Lib.hid (fun (j : Nat) (hj : j < 2) => show (pmL p).take (j + 1) = (pmL p).take j ++ [basisL 1 (pix p (j : Int))] by have h := pmL_step (p := p) (j := j) (by rw [hl]; omega); rw [hl] at h; exact h)
  have hL : (pmL p).length = 2 := by rw [pmL_len, hl]
  have HLl := Lib.hid hL
  have H4 := Lib.hid (fun D E c W (h : DSM W D E c (pmL p)) => scolumns D E c (pmL p) W h (pmL_rows hP) (by omega))
  rw [show pmM p = colsM (pmL p) from if_pos hP]
  generalize pmL p = L at *
  clear hep hP hL
  obtain ⟨a, cap, rfl, hcap, -⟩ := hv
  rw [hl] at hcap Hv H1 H2 ⊢
  clear hl
  go_enter Tryz.func27, Tryz.ntmps27
  go_wp2_with fail
  go_loopg [3, 4] 2 (fun n out i wr => ∃ (j : Nat) (vs : List Value), n = 2 - j ∧ j ≤ 2 ∧ i = .int .i64 j ∧ Hid (wr.ownsRow w.heap.size 36 1 out j vs) ∧ Hid (RwS wr w.heap.size wr.heap.size vs (L.take j)) ∧ Hid (Below w.heap.size w wr))
  case atStart => exact ⟨0, [], rfl, Nat.zero_le _, rfl, ownM_new rfl, RwS.nil, (Below.refl _ _).alloc (Nat.le_refl _) _⟩
  case round =>
    obtain ⟨j, vs, rfl, hj, rfl, Hown, Hrows, Hb⟩ := hrel
    have hs := Hb.out.size
    have H1r := Lib.hid (H1.out wr (Hv.out.block fun g _ hg => Hb.out.block g hg))
    by_cases hlt : j < 2
    · have hlt' : (j : Int) < 2 := by omega
      have Hstep := Lib.hid (Hst.out j hlt)
      go_wp2_with fail
      refine (H1r.out).mono ?_
      rintro e w2 ⟨rfl, hb2⟩
      have Hown2 := Lib.hid (row_below Hown.out hb2)
      have Hrows2 := Lib.hid ((Hrows.out.block fun k _ _ hk => hb2.block k hk).mono (Nat.le_refl _) hb2.size)
      have Hb2 := Lib.hid (Hb.out.trans (hb2.mono hs))
      have hs2 := Hb2.out.size
      have H2r := Lib.hid (H2.out j hlt w2 (Hv.out.block fun g _ hg => Hb2.out.block g hg))
      clear hb2 Hown Hrows Hb H1r
      generalize pix p (j : Int) = x at *
      go_wp2_with fail
      refine (H2r.out).mono ?_
      rintro e w3 ⟨rfl, hb3⟩
      have Hown3 := Lib.hid (row_below Hown2.out hb3)
      have Hrows3 := Lib.hid ((Hrows2.out.block fun k _ _ hk => hb3.block k hk).mono (Nat.le_refl _) hb3.size)
      have Hb3 := Lib.hid (Hb2.out.trans (hb3.mono hs2))
      have hs3 := Hb3.out.size
      clear hb3 Hown2 Hrows2 Hb2 H2r
      go_wp2_with fail
      refine (H3.out x _).mono ?_
      rintro e w4 ⟨u, rfl, hd, hb4⟩
      have Hown4 := Lib.hid (row_below Hown3.out hb4)
      have Hrows4 := Lib.hid (Hrows3.out.snoc hd.upto hs3 hb4.size fun k _ _ hk => hb4.block k hk)
      have Hb4 := Lib.hid (Hb3.out.trans (hb4.mono hs3))
      have hs4 := Hb4.out.size
      obtain ⟨q, qc, rfl, -, -⟩ := hd
      clear hb4 Hown3 Hrows3 Hb3
      generalize basisL 1 x = r at *
      go_wp2_with (first
        | (at_builtin; refine wpList_append_own _ rfl _ _ 28 rfl w.heap.size 36 i0 (.slice none 0 0) 1 24 Tryz.underlying28 hi hz0 hz1 hz2 rfl (by decide) _ _ _ rfl (Hown4.out.alloc _) ⟨w4.heap.size, 0, none⟩ 1 1 [.slice q r.length qc] rfl rfl (slice_new _ _ _) (by intro u hu; simp at hu; subst hu; rfl) ?d3 ?d4 ?d5 ?_))
      case d3 => unfold maxLen; omega
      case d4 => omega
      case d5 => first | omega | (simp; omega)
      intro v' w5 hown' hgrow _
      have HB5 := Lib.hid ((Hb4.out.alloc hs4 (.cells #[.slice q r.length qc] 36)).grown hgrow (by simp; omega) (fun q hq => by have := Hown4.out.lt q hq; omega))
      have Hrows5 := Lib.hid (((Hrows4.out.block fun k _ _ hk => Below.heap_alloc _ _ _ hk).grown (Hown4.out.alloc _) hgrow).upto)
      have Hown5 := Lib.hid hown'
      clear hown' hgrow
      rw [← Hstep.out] at Hrows5
      go_wp2_with fail
      go_roundg (2 - (j + 1))
      case measure => omega
      case rel => exact ⟨j + 1, _, rfl, by omega, by go_num, Hown5.out, Hrows5, HB5⟩
    · obtain rfl : j = 2 := by omega
      have hrows := Hrows.out
      rw [List.take_of_length_le (by rw [HLl.out]; exact Nat.le_refl _)] at hrows
      have hd := DSM.of_own (M := L) (by rw [HLl.out]; exact Hown.out) hrows (Nat.le_refl _)
      have Hd := Lib.hid hd
      clear hrows hd Hown Hrows
      go_wp2_with fail
      refine (H1r.out).mono ?_
      rintro e w2 ⟨rfl, hb2⟩
      have Hb2 := Lib.hid (Hb.out.trans (hb2.mono hs))
      have hs2 := Hb2.out.size
      have Hc := Lib.hid (H4.out _ _ _ w2 (Hd.out.below hb2))
      clear hb2 Hd H1r
      go_wp2_with fail
      refine (Hc.out).mono ?_
      rintro e w3 ⟨u, rfl, hdu, hb3⟩
      have Hdu := Lib.hid (hdu.mono (D := w.heap.size) (E := w3.heap.size) hs2 (Nat.le_refl _))
      have Hb3 := Lib.hid (Hb2.out.trans (hb3.mono hs2))
      clear hb3 hdu
      go_wp2_with fail
      go_ret
      exact ⟨_, rfl, Hdu.out, Hb3.out⟩
set_option maxRecDepth 100000 in
set_option maxHeartbeats 3200000 in
theorem spm2 (B : Nat) (v : Value) (p : List Int) (w : World) (hv : intE.Sl w B v p) (hep : Ei p) (hP : permB p = true) (hl : p.length = 2) :
    Calls Tryz.prog 27 #[v] w fun e w' => ∃ u, e = .returned u ∧ DSM w' w.heap.size w'.heap.size u (pmM p) ∧ Below w.heap.size w w' := by
  obtain ⟨i0, hi, hz0, hz1, hz2⟩ := info_parts infoDs
  have Hv := Lib.hid hv
  have H1 := Lib.hid (fun W (h : intE.Sl W B v p) => sisP B v p W h hep (by omega))
  rw [hP] at H1
  have H2 := Lib.hid (fun (j : Nat) (hj : j < 4) W (h : intE.Sl W B v p) => spix B v p (j : Int) W h hep (by omega) (by omega) (by omega))
  have H3 := Lib.hid (fun (x : Int) W => sbasis 2 x W)
  have Hst := Lib.hid (fun (j : Nat) (hj : j < 4) => show (pmL p).take (j + 1) = (pmL p).take j ++ [basisL 2 (pix p (j : Int))] by have h := pmL_step (p := p) (j := j) (by rw [hl]; omega); rw [hl] at h; exact h)
  have hL : (pmL p).length = 4 := by rw [pmL_len, hl]
  have HLl := Lib.hid hL
  have H4 := Lib.hid (fun D E c W (h : DSM W D E c (pmL p)) => scolumns D E c (pmL p) W h (pmL_rows hP) (by omega))
  rw [show pmM p = colsM (pmL p) from if_pos hP]
  generalize pmL p = L at *
  clear hep hP hL
  obtain ⟨a, cap, rfl, hcap, -⟩ := hv
  rw [hl] at hcap Hv H1 H2 ⊢
  clear hl
  go_enter Tryz.func27, Tryz.ntmps27
  go_wp2_with fail
  go_loopg [3, 4] 4 (fun n out i wr => ∃ (j : Nat) (vs : List Value), n = 4 - j ∧ j ≤ 4 ∧ i = .int .i64 j ∧ Hid (wr.ownsRow w.heap.size 36 1 out j vs) ∧ Hid (RwS wr w.heap.size wr.heap.size vs (L.take j)) ∧ Hid (Below w.heap.size w wr))
  case atStart => exact ⟨0, [], rfl, Nat.zero_le _, rfl, ownM_new rfl, RwS.nil, (Below.refl _ _).alloc (Nat.le_refl _) _⟩
  case round =>
    obtain ⟨j, vs, rfl, hj, rfl, Hown, Hrows, Hb⟩ := hrel
    have hs := Hb.out.size
    have H1r := Lib.hid (H1.out wr (Hv.out.block fun g _ hg => Hb.out.block g hg))
    by_cases hlt : j < 4
    · have hlt' : (j : Int) < 4 := by omega
      have Hstep := Lib.hid (Hst.out j hlt)
      go_wp2_with fail
      refine (H1r.out).mono ?_
      rintro e w2 ⟨rfl, hb2⟩
      have Hown2 := Lib.hid (row_below Hown.out hb2)
      have Hrows2 := Lib.hid ((Hrows.out.block fun k _ _ hk => hb2.block k hk).mono (Nat.le_refl _) hb2.size)
      have Hb2 := Lib.hid (Hb.out.trans (hb2.mono hs))
      have hs2 := Hb2.out.size
      have H2r := Lib.hid (H2.out j hlt w2 (Hv.out.block fun g _ hg => Hb2.out.block g hg))
      clear hb2 Hown Hrows Hb H1r
      generalize pix p (j : Int) = x at *
      go_wp2_with fail
      refine (H2r.out).mono ?_
      rintro e w3 ⟨rfl, hb3⟩
      have Hown3 := Lib.hid (row_below Hown2.out hb3)
      have Hrows3 := Lib.hid ((Hrows2.out.block fun k _ _ hk => hb3.block k hk).mono (Nat.le_refl _) hb3.size)
      have Hb3 := Lib.hid (Hb2.out.trans (hb3.mono hs2))
      have hs3 := Hb3.out.size
      clear hb3 Hown2 Hrows2 Hb2 H2r
      go_wp2_with fail
      refine (H3.out x _).mono ?_
      rintro e w4 ⟨u, rfl, hd, hb4⟩
      have Hown4 := Lib.hid (row_below Hown3.out hb4)
      have Hrows4 := Lib.hid (Hrows3.out.snoc hd.upto hs3 hb4.size fun k _ _ hk => hb4.block k hk)
      have Hb4 := Lib.hid (Hb3.out.trans (hb4.mono hs3))
      have hs4 := Hb4.out.size
      obtain ⟨q, qc, rfl, -, -⟩ := hd
      clear hb4 Hown3 Hrows3 Hb3
      generalize basisL 2 x = r at *
      go_wp2_with (first
        | (at_builtin; refine wpList_append_own _ rfl _ _ 28 rfl w.heap.size 36 i0 (.slice none 0 0) 1 24 Tryz.underlying28 hi hz0 hz1 hz2 rfl (by decide) _ _ _ rfl (Hown4.out.alloc _) ⟨w4.heap.size, 0, none⟩ 1 1 [.slice q r.length qc] rfl rfl (slice_new _ _ _) (by intro u hu; simp at hu; subst hu; rfl) ?d3 ?d4 ?d5 ?_))
      case d3 => unfold maxLen; omega
      case d4 => omega
      case d5 => first | omega | (simp; omega)
      intro v' w5 hown' hgrow _
      have HB5 := Lib.hid ((Hb4.out.alloc hs4 (.cells #[.slice q r.length qc] 36)).grown hgrow (by simp; omega) (fun q hq => by have := Hown4.out.lt q hq; omega))
      have Hrows5 := Lib.hid (((Hrows4.out.block fun k _ _ hk => Below.heap_alloc _ _ _ hk).grown (Hown4.out.alloc _) hgrow).upto)
      have Hown5 := Lib.hid hown'
      clear hown' hgrow
      rw [← Hstep.out] at Hrows5
      go_wp2_with fail
      go_roundg (4 - (j + 1))
      case measure => omega
      case rel => exact ⟨j + 1, _, rfl, by omega, by go_num, Hown5.out, Hrows5, HB5⟩
    · obtain rfl : j = 4 := by omega
      have hrows := Hrows.out
      rw [List.take_of_length_le (by rw [HLl.out]; exact Nat.le_refl _)] at hrows
      have hd := DSM.of_own (M := L) (by rw [HLl.out]; exact Hown.out) hrows (Nat.le_refl _)
      have Hd := Lib.hid hd
      clear hrows hd Hown Hrows
      go_wp2_with fail
      refine (H1r.out).mono ?_
      rintro e w2 ⟨rfl, hb2⟩
      have Hb2 := Lib.hid (Hb.out.trans (hb2.mono hs))
      have hs2 := Hb2.out.size
      have Hc := Lib.hid (H4.out _ _ _ w2 (Hd.out.below hb2))
      clear hb2 Hd H1r
      go_wp2_with fail
      refine (Hc.out).mono ?_
      rintro e w3 ⟨u, rfl, hdu, hb3⟩
      have Hdu := Lib.hid (hdu.mono (D := w.heap.size) (E := w3.heap.size) hs2 (Nat.le_refl _))
      have Hb3 := Lib.hid (Hb2.out.trans (hb3.mono hs2))
      clear hb3 hdu
      go_wp2_with fail
      go_ret
      exact ⟨_, rfl, Hdu.out, Hb3.out⟩
set_option maxRecDepth 100000 in
set_option maxHeartbeats 3200000 in
theorem spm3 (B : Nat) (v : Value) (p : List Int) (w : World) (hv : intE.Sl w B v p) (hep : Ei p) (hP : permB p = true) (hl : p.length = 3) :
    Calls Tryz.prog 27 #[v] w fun e w' => ∃ u, e = .returned u ∧ DSM w' w.heap.size w'.heap.size u (pmM p) ∧ Below w.heap.size w w' := by
  obtain ⟨i0, hi, hz0, hz1, hz2⟩ := info_parts infoDs
  have Hv := Lib.hid hv
  have H1 := Lib.hid (fun W (h : intE.Sl W B v p) => sisP B v p W h hep (by omega))
  rw [hP] at H1
  have H2 := Lib.hid (fun (j : Nat) (hj : j < 8) W (h : intE.Sl W B v p) => spix B v p (j : Int) W h hep (by omega) (by omega) (by omega))
  have H3 := Lib.hid (fun (x : Int) W => sbasis 3 x W)
  have Hst := Lib.hid (fun (j : Nat) (hj : j < 8) => show (pmL p).take (j + 1) = (pmL p).take j ++ [basisL 3 (pix p (j : Int))] by have h := pmL_step (p := p) (j := j) (by rw [hl]; omega); rw [hl] at h; exact h)
  have hL : (pmL p).length = 8 := by rw [pmL_len, hl]
  have HLl := Lib.hid hL
  have H4 := Lib.hid (fun D E c W (h : DSM W D E c (pmL p)) => scolumns D E c (pmL p) W h (pmL_rows hP) (by omega))
  rw [show pmM p = colsM (pmL p) from if_pos hP]
  generalize pmL p = L at *
  clear hep hP hL
  obtain ⟨a, cap, rfl, hcap, -⟩ := hv
  rw [hl] at hcap Hv H1 H2 ⊢
  clear hl
  go_enter Tryz.func27, Tryz.ntmps27
  go_wp2_with fail
  go_loopg [3, 4] 8 (fun n out i wr => ∃ (j : Nat) (vs : List Value), n = 8 - j ∧ j ≤ 8 ∧ i = .int .i64 j ∧ Hid (wr.ownsRow w.heap.size 36 1 out j vs) ∧ Hid (RwS wr w.heap.size wr.heap.size vs (L.take j)) ∧ Hid (Below w.heap.size w wr))
  case atStart => exact ⟨0, [], rfl, Nat.zero_le _, rfl, ownM_new rfl, RwS.nil, (Below.refl _ _).alloc (Nat.le_refl _) _⟩
  case round =>
    obtain ⟨j, vs, rfl, hj, rfl, Hown, Hrows, Hb⟩ := hrel
    have hs := Hb.out.size
    have H1r := Lib.hid (H1.out wr (Hv.out.block fun g _ hg => Hb.out.block g hg))
    by_cases hlt : j < 8
    · have hlt' : (j : Int) < 8 := by omega
      have Hstep := Lib.hid (Hst.out j hlt)
      go_wp2_with fail
      refine (H1r.out).mono ?_
      rintro e w2 ⟨rfl, hb2⟩
      have Hown2 := Lib.hid (row_below Hown.out hb2)
      have Hrows2 := Lib.hid ((Hrows.out.block fun k _ _ hk => hb2.block k hk).mono (Nat.le_refl _) hb2.size)
      have Hb2 := Lib.hid (Hb.out.trans (hb2.mono hs))
      have hs2 := Hb2.out.size
      have H2r := Lib.hid (H2.out j hlt w2 (Hv.out.block fun g _ hg => Hb2.out.block g hg))
      clear hb2 Hown Hrows Hb H1r
      generalize pix p (j : Int) = x at *
      go_wp2_with fail
      refine (H2r.out).mono ?_
      rintro e w3 ⟨rfl, hb3⟩
      have Hown3 := Lib.hid (row_below Hown2.out hb3)
      have Hrows3 := Lib.hid ((Hrows2.out.block fun k _ _ hk => hb3.block k hk).mono (Nat.le_refl _) hb3.size)
      have Hb3 := Lib.hid (Hb2.out.trans (hb3.mono hs2))
      have hs3 := Hb3.out.size
      clear hb3 Hown2 Hrows2 Hb2 H2r
      go_wp2_with fail
      refine (H3.out x _).mono ?_
      rintro e w4 ⟨u, rfl, hd, hb4⟩
      have Hown4 := Lib.hid (row_below Hown3.out hb4)
      have Hrows4 := Lib.hid (Hrows3.out.snoc hd.upto hs3 hb4.size fun k _ _ hk => hb4.block k hk)
      have Hb4 := Lib.hid (Hb3.out.trans (hb4.mono hs3))
      have hs4 := Hb4.out.size
      obtain ⟨q, qc, rfl, -, -⟩ := hd
      clear hb4 Hown3 Hrows3 Hb3
      generalize basisL 3 x = r at *
      go_wp2_with (first
        | (at_builtin; refine wpList_append_own _ rfl _ _ 28 rfl w.heap.size 36 i0 (.slice none 0 0) 1 24 Tryz.underlying28 hi hz0 hz1 hz2 rfl (by decide) _ _ _ rfl (Hown4.out.alloc _) ⟨w4.heap.size, 0, none⟩ 1 1 [.slice q r.length qc] rfl rfl (slice_new _ _ _) (by intro u hu; simp at hu; subst hu; rfl) ?d3 ?d4 ?d5 ?_))
      case d3 => unfold maxLen; omega
      case d4 => omega
      case d5 => first | omega | (simp; omega)
      intro v' w5 hown' hgrow _
      have HB5 := Lib.hid ((Hb4.out.alloc hs4 (.cells #[.slice q r.length qc] 36)).grown hgrow (by simp; omega) (fun q hq => by have := Hown4.out.lt q hq; omega))
      have Hrows5 := Lib.hid (((Hrows4.out.block fun k _ _ hk => Below.heap_alloc _ _ _ hk).grown (Hown4.out.alloc _) hgrow).upto)
      have Hown5 := Lib.hid hown'
      clear hown' hgrow
      rw [← Hstep.out] at Hrows5
      go_wp2_with fail
      go_roundg (8 - (j + 1))
      case measure => omega
      case rel => exact ⟨j + 1, _, rfl, by omega, by go_num, Hown5.out, Hrows5, HB5⟩
    · obtain rfl : j = 8 := by omega
      have hrows := Hrows.out
      rw [List.take_of_length_le (by rw [HLl.out]; exact Nat.le_refl _)] at hrows
      have hd := DSM.of_own (M := L) (by rw [HLl.out]; exact Hown.out) hrows (Nat.le_refl _)
      have Hd := Lib.hid hd
      clear hrows hd Hown Hrows
      go_wp2_with fail
      refine (H1r.out).mono ?_
      rintro e w2 ⟨rfl, hb2⟩
      have Hb2 := Lib.hid (Hb.out.trans (hb2.mono hs))
      have hs2 := Hb2.out.size
      have Hc := Lib.hid (H4.out _ _ _ w2 (Hd.out.below hb2))
      clear hb2 Hd H1r
      go_wp2_with fail
      refine (Hc.out).mono ?_
      rintro e w3 ⟨u, rfl, hdu, hb3⟩
      have Hdu := Lib.hid (hdu.mono (D := w.heap.size) (E := w3.heap.size) hs2 (Nat.le_refl _))
      have Hb3 := Lib.hid (Hb2.out.trans (hb3.mono hs2))
      clear hb3 hdu
      go_wp2_with fail
      go_ret
      exact ⟨_, rfl, Hdu.out, Hb3.out⟩
set_option maxRecDepth 100000 in
set_option maxHeartbeats 3200000 in
theorem spm4 (B : Nat) (v : Value) (p : List Int) (w : World) (hv : intE.Sl w B v p) (hep : Ei p) (hP : permB p = true) (hl : p.length = 4) :
    Calls Tryz.prog 27 #[v] w fun e w' => ∃ u, e = .returned u ∧ DSM w' w.heap.size w'.heap.size u (pmM p) ∧ Below w.heap.size w w' := by
  obtain ⟨i0, hi, hz0, hz1, hz2⟩ := info_parts infoDs
  have Hv := Lib.hid hv
  have H1 := Lib.hid (fun W (h : intE.Sl W B v p) => sisP B v p W h hep (by omega))
  rw [hP] at H1
  have H2 := Lib.hid (fun (j : Nat) (hj : j < 16) W (h : intE.Sl W B v p) => spix B v p (j : Int) W h hep (by omega) (by omega) (by omega))
  have H3 := Lib.hid (fun (x : Int) W => sbasis 4 x W)
  have Hst := Lib.hid (fun (j : Nat) (hj : j < 16) => show (pmL p).take (j + 1) = (pmL p).take j ++ [basisL 4 (pix p (j : Int))] by have h := pmL_step (p := p) (j := j) (by rw [hl]; omega); rw [hl] at h; exact h)
  have hL : (pmL p).length = 16 := by rw [pmL_len, hl]
  have HLl := Lib.hid hL
  have H4 := Lib.hid (fun D E c W (h : DSM W D E c (pmL p)) => scolumns D E c (pmL p) W h (pmL_rows hP) (by omega))
  rw [show pmM p = colsM (pmL p) from if_pos hP]
  generalize pmL p = L at *
  clear hep hP hL
  obtain ⟨a, cap, rfl, hcap, -⟩ := hv
  rw [hl] at hcap Hv H1 H2 ⊢
  clear hl
  go_enter Tryz.func27, Tryz.ntmps27
  go_wp2_with fail
  go_loopg [3, 4] 16 (fun n out i wr => ∃ (j : Nat) (vs : List Value), n = 16 - j ∧ j ≤ 16 ∧ i = .int .i64 j ∧ Hid (wr.ownsRow w.heap.size 36 1 out j vs) ∧ Hid (RwS wr w.heap.size wr.heap.size vs (L.take j)) ∧ Hid (Below w.heap.size w wr))
  case atStart => exact ⟨0, [], rfl, Nat.zero_le _, rfl, ownM_new rfl, RwS.nil, (Below.refl _ _).alloc (Nat.le_refl _) _⟩
  case round =>
    obtain ⟨j, vs, rfl, hj, rfl, Hown, Hrows, Hb⟩ := hrel
    have hs := Hb.out.size
    have H1r := Lib.hid (H1.out wr (Hv.out.block fun g _ hg => Hb.out.block g hg))
    by_cases hlt : j < 16
    · have hlt' : (j : Int) < 16 := by omega
      have Hstep := Lib.hid (Hst.out j hlt)
      go_wp2_with fail
      refine (H1r.out).mono ?_
      rintro e w2 ⟨rfl, hb2⟩
      have Hown2 := Lib.hid (row_below Hown.out hb2)
      have Hrows2 := Lib.hid ((Hrows.out.block fun k _ _ hk => hb2.block k hk).mono (Nat.le_refl _) hb2.size)
      have Hb2 := Lib.hid (Hb.out.trans (hb2.mono hs))
      have hs2 := Hb2.out.size
      have H2r := Lib.hid (H2.out j hlt w2 (Hv.out.block fun g _ hg => Hb2.out.block g hg))
      clear hb2 Hown Hrows Hb H1r
      generalize pix p (j : Int) = x at *
      go_wp2_with fail
      refine (H2r.out).mono ?_
      rintro e w3 ⟨rfl, hb3⟩
      have Hown3 := Lib.hid (row_below Hown2.out hb3)
      have Hrows3 := Lib.hid ((Hrows2.out.block fun k _ _ hk => hb3.block k hk).mono (Nat.le_refl _) hb3.size)
      have Hb3 := Lib.hid (Hb2.out.trans (hb3.mono hs2))
      have hs3 := Hb3.out.size
      clear hb3 Hown2 Hrows2 Hb2 H2r
      go_wp2_with fail
      refine (H3.out x _).mono ?_
      rintro e w4 ⟨u, rfl, hd, hb4⟩
      have Hown4 := Lib.hid (row_below Hown3.out hb4)
      have Hrows4 := Lib.hid (Hrows3.out.snoc hd.upto hs3 hb4.size fun k _ _ hk => hb4.block k hk)
      have Hb4 := Lib.hid (Hb3.out.trans (hb4.mono hs3))
      have hs4 := Hb4.out.size
      obtain ⟨q, qc, rfl, -, -⟩ := hd
      clear hb4 Hown3 Hrows3 Hb3
      generalize basisL 4 x = r at *
      go_wp2_with (first
        | (at_builtin; refine wpList_append_own _ rfl _ _ 28 rfl w.heap.size 36 i0 (.slice none 0 0) 1 24 Tryz.underlying28 hi hz0 hz1 hz2 rfl (by decide) _ _ _ rfl (Hown4.out.alloc _) ⟨w4.heap.size, 0, none⟩ 1 1 [.slice q r.length qc] rfl rfl (slice_new _ _ _) (by intro u hu; simp at hu; subst hu; rfl) ?d3 ?d4 ?d5 ?_))
      case d3 => unfold maxLen; omega
      case d4 => omega
      case d5 => first | omega | (simp; omega)
      intro v' w5 hown' hgrow _
      have HB5 := Lib.hid ((Hb4.out.alloc hs4 (.cells #[.slice q r.length qc] 36)).grown hgrow (by simp; omega) (fun q hq => by have := Hown4.out.lt q hq; omega))
      have Hrows5 := Lib.hid (((Hrows4.out.block fun k _ _ hk => Below.heap_alloc _ _ _ hk).grown (Hown4.out.alloc _) hgrow).upto)
      have Hown5 := Lib.hid hown'
      clear hown' hgrow
      rw [← Hstep.out] at Hrows5
      go_wp2_with fail
      go_roundg (16 - (j + 1))
      case measure => omega
      case rel => exact ⟨j + 1, _, rfl, by omega, by go_num, Hown5.out, Hrows5, HB5⟩
    · obtain rfl : j = 16 := by omega
      have hrows := Hrows.out
      rw [List.take_of_length_le (by rw [HLl.out]; exact Nat.le_refl _)] at hrows
      have hd := DSM.of_own (M := L) (by rw [HLl.out]; exact Hown.out) hrows (Nat.le_refl _)
      have Hd := Lib.hid hd
      clear hrows hd Hown Hrows
      go_wp2_with fail
      refine (H1r.out).mono ?_
      rintro e w2 ⟨rfl, hb2⟩
      have Hb2 := Lib.hid (Hb.out.trans (hb2.mono hs))
      have hs2 := Hb2.out.size
      have Hc := Lib.hid (H4.out _ _ _ w2 (Hd.out.below hb2))
      clear hb2 Hd H1r
      go_wp2_with fail
      refine (Hc.out).mono ?_
      rintro e w3 ⟨u, rfl, hdu, hb3⟩
      have Hdu := Lib.hid (hdu.mono (D := w.heap.size) (E := w3.heap.size) hs2 (Nat.le_refl _))
      have Hb3 := Lib.hid (Hb2.out.trans (hb3.mono hs2))
      clear hb3 hdu
      go_wp2_with fail
      go_ret
      exact ⟨_, rfl, Hdu.out, Hb3.out⟩
set_option maxRecDepth 100000 in
set_option maxHeartbeats 1600000 in
theorem spmM (B : Nat) (v : Value) (p : List Int) (w : World) (hv : intE.Sl w B v p) (hep : Ei p) (hm : p.length ≤ 1048576) :
    Calls Tryz.prog 27 #[v] w fun e w' => ∃ u, e = .returned u ∧ DSM w' w.heap.size w'.heap.size u (pmM p) ∧ Below w.heap.size w w' := by
  cases hP : permB p with
  | true =>
    have h4 := (permB_iff.1 hP).2
    rcases (show p.length = 1 ∨ p.length = 2 ∨ p.length = 3 ∨ p.length = 4 by omega) with e | e | e | e
    · exact spm1 B v p w hv hep hP e
    · exact spm2 B v p w hv hep hP e
    · exact spm3 B v p w hv hep hP e
    · exact spm4 B v p w hv hep hP e
  | false =>
    have Hv := Lib.hid hv
    have H1 := Lib.hid (fun W (h : intE.Sl W B v p) => sisP B v p W h hep hm)
    rw [hP] at H1
    rw [show pmM p = [] from if_neg (by rw [hP]; decide)]
    have H4 := Lib.hid (fun D E c W (h : DSM W D E c []) => scolumns D E c [] W h (fun r hr => absurd hr List.not_mem_nil) (Nat.zero_le _))
    clear hep hP
    obtain ⟨a, cap, rfl, hcap, -⟩ := hv
    go_enter Tryz.func27, Tryz.ntmps27
    go_wp2_with fail
    go_loopg [3, 4] 0 (fun n out i wr => n = 0 ∧ i = .int .i64 0 ∧ out = .slice (some ⟨w.heap.size, 0, none⟩) 0 0 ∧ Hid (Below w.heap.size w wr))
    case atStart => exact ⟨rfl, rfl, rfl, (Below.refl _ _).alloc (Nat.le_refl _) _⟩
    case round =>
      obtain ⟨rfl, rfl, rfl, Hb⟩ := hrel
      have hs := Hb.out.size
      have H1r := Lib.hid (H1.out wr (Hv.out.block fun g _ hg => Hb.out.block g hg))
      go_wp2_with fail
      refine (H1r.out).mono ?_
      rintro e w2 ⟨rfl, hb2⟩
      have Hb2 := Lib.hid (Hb.out.trans (hb2.mono hs))
      have hs2 := Hb2.out.size
      have Hc := Lib.hid (H4.out 0 0 (.slice (some ⟨w.heap.size, 0, none⟩) 0 0) w2 DSM.nil)
      clear hb2 H1r
      go_wp2_with fail
      refine (Hc.out).mono ?_
      rintro e w3 ⟨u, rfl, hdu, hb3⟩
      have Hdu := Lib.hid (hdu.mono (D := w.heap.size) (E := w3.heap.size) hs2 (Nat.le_refl _))
      have Hb3 := Lib.hid (Hb2.out.trans (hb3.mono hs2))
      clear hb3 hdu
      go_wp2_with fail
      go_ret
      exact ⟨_, rfl, Hdu.out, Hb3.out⟩
end Go.Proofs.YtmpafidkpangeaaGreat
