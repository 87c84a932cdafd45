/- The laws' own helpers over tokens and slices of tokens: size, copy, equality, mark, look; such a slice that comes in. -/
import Derived.Test.YtgicldokglpimaaTkQ
import Derived.Test.YtgicldokglpimaaBaseB31
import Derived.Test.YtgicldokglpimaaBaseB10
import Derived.Test.YtgicldokglpimaaBaseB08
import Derived.Test.YtgicldokglpimaaBaseB18
namespace Go.Proofs.Ytgicldokglpimaa
open Go.RowKit
/-- A slice of the laws' tokens that came in. -/
def TkIn (w : World) (B : Nat) (a0 : Option Addr) (l : List Tk) : Prop :=
  l.length ≤ maxLen ∧ (∀ x ∈ l, x.s.length ≤ maxLen) ∧
  (0 < l.length → ∃ b off, a0 = some ⟨b, off, none⟩ ∧ b < B ∧ ∀ j x, l[j]? = some x → w.cell? ⟨b, off + j * 2, none⟩ = some (.int .i64 x.k) ∧ w.cell? ⟨b, off + j * 2 + 1, none⟩ = some (.string (sb x.s)))
theorem TkIn.below {w w' : World} {B : Nat} {a0 : Option Addr} {l : List Tk} (h : TkIn w B a0 l) (hb : Below B w w') : TkIn w' B a0 l :=
  ⟨h.1, h.2.1, fun h0 => by
    obtain ⟨b, off, e, hlt, hc⟩ := h.2.2 h0
    refine ⟨b, off, e, hlt, fun j x hx => ?_⟩
    obtain ⟨c0, c1⟩ := hc j x hx
    exact ⟨(hb.cell (by exact hlt)).trans c0, (hb.cell (by exact hlt)).trans c1⟩⟩
theorem TkIn.mono {w : World} {B C : Nat} {a0 : Option Addr} {l : List Tk} (h : TkIn w B a0 l) (hC : B ≤ C) : TkIn w C a0 l :=
  ⟨h.1, h.2.1, fun h0 => by obtain ⟨b, off, e, hlt, hc⟩ := h.2.2 h0; exact ⟨b, off, e, by omega, hc⟩⟩
def zeroT : Tk := ⟨0, []⟩
theorem made_tks (n : Nat) : (madeCells #[.int .i64 0, .string ⟨#[]⟩] (n * 2)).toList = tkE.flat (List.replicate n zeroT) := by
  induction n with
  | zero => simp [madeCells, Enc.flat]
  | succ n ih =>
    have h : ∀ k, (#[.int .i64 0, .string ⟨#[]⟩] : Array Value)[(n * 2 + k) % 2]! = (#[.int .i64 0, .string ⟨#[]⟩] : Array Value)[k % 2]! := by
      intro k; rw [show (n * 2 + k) % 2 = k % 2 by omega]
    rw [List.replicate_succ', tkE.flat_app, ← ih, show (n + 1) * 2 = n * 2 + 2 by omega]
    simp only [madeCells, Array.toList_map, Array.toList_range, List.range_add, List.map_append, List.map_map]
    congr 1
    simp only [List.range_succ, List.range_zero, List.nil_append, List.map_append, List.map_cons, List.map_nil, Function.comp_def]
    rw [show (#[.int .i64 0, .string ⟨#[]⟩] : Array Value).size = 2 from rfl, h 0, h 1]
    rfl
theorem halfT_at {l : List Tk} {j : Nat} (h : j < l.length) : (l.take j ++ List.replicate (l.length - j) zeroT)[j]? = some zeroT := by
  rw [List.getElem?_append_right (by simp; omega), List.getElem?_replicate, if_pos (by simp; omega)]
theorem halfT_set {l : List Tk} {j : Nat} {x : Tk} (hx : l[j]? = some x) : (l.take j ++ List.replicate (l.length - j) zeroT).set j x = l.take (j + 1) ++ List.replicate (l.length - (j + 1)) zeroT := by
  have h : j < l.length := by
    rcases Nat.lt_or_ge j l.length with h' | h'
    · exact h'
    · rw [List.getElem?_eq_none h'] at hx; cases hx
  rw [List.set_append_right _ _ (by simp; omega), List.take_add_one, hx]
  rw [show l.length - j = (l.length - (j + 1)) + 1 by omega, List.replicate_succ, show j - (l.take j).length = 0 by simp; omega]
  simp
/-- A token written into a row, cell by cell. -/
theorem TRow.put {w : World} {g : Nat} {l : List Tk} (h : tkE.Row w g l) {j : Nat} (hj : j < l.length) (x : Tk) :
    tkE.Row ((w.setCell ⟨g, j * 2, none⟩ (.int .i64 x.k)).setCell ⟨g, j * 2 + 1, none⟩ (.string (sb x.s))) g (l.set j x) := by
  obtain ⟨y, hy⟩ : ∃ y, l[j]? = some y := ⟨l[j], List.getElem?_eq_getElem hj⟩
  have h1 := h.put1 (o := 0) (v := .int .i64 x.k) (y := ⟨x.k, y.s⟩) hy (by decide) rfl
  have h2 := h1.put1 (j := j) (o := 1) (v := .string (sb x.s)) (x := ⟨x.k, y.s⟩) (y := x) (by rw [List.getElem?_set_self hj]) (by decide) rfl
  rw [List.set_set] at h2
  exact h2
/-- The marks of a token, of a row of n tokens that begins at k. -/
def mkTk (k : Nat) : Tk := ⟨(k : Nat), mt (k + 1)⟩
def marksT (k n : Nat) : List Tk := (List.range n).map fun (j : Nat) => mkTk (k + j * 2)
theorem marksT_len (k n : Nat) : (marksT k n).length = n := by simp [marksT]
theorem marksT_at {k n j : Nat} (h : j < n) : (marksT k n)[j]? = some (mkTk (k + j * 2)) := by
  rw [marksT, List.getElem?_map, List.getElem?_range h]; rfl
theorem markT_at (l : List Tk) {k j : Nat} (_ : j < l.length) : (marksT k j ++ l.drop j)[j]? = l[j]? := by
  rw [List.getElem?_append_right (by rw [marksT_len]; exact Nat.le_refl _), marksT_len, List.getElem?_drop]
  simp
theorem markT_set (l : List Tk) {k j : Nat} (h : j < l.length) : (marksT k j ++ l.drop j).set j (mkTk (k + j * 2)) = marksT k (j + 1) ++ l.drop (j + 1) := by
  rw [List.set_append_right _ _ (by rw [marksT_len]; exact Nat.le_refl _), marksT_len, Nat.sub_self]
  rw [show marksT k (j + 1) = marksT k j ++ [mkTk (k + j * 2)] by simp [marksT, List.range_succ], List.append_assoc]
  congr 1
  rw [show l.drop j = l[j] :: l.drop (j + 1) from (List.getElem_cons_drop ..).symm]
  rfl
/-- The bytes of all texts. -/
def tsz (l : List Tk) : Nat := (l.map fun t => t.s.length).sum
theorem tsz_step {l : List Tk} {j : Nat} {x : Tk} (hx : l[j]? = some x) : tsz (l.take (j + 1)) = tsz (l.take j) + x.s.length := by
  unfold tsz
  rw [List.take_add_one, hx, List.map_append, List.sum_append]
  simp
theorem tsz_le (l : List Tk) (j : Nat) : tsz (l.take j) ≤ tsz l := by
  have h : tsz l = tsz (l.take j) + tsz (l.drop j) := by
    unfold tsz
    rw [← List.sum_append, ← List.map_append, List.take_append_drop]
  omega
theorem tsz_mem : ∀ {l : List Tk} {t : Tk}, t ∈ l → t.s.length ≤ tsz l
  | [], t, h => absurd h List.not_mem_nil
  | x :: l, t, h => by
    have e : tsz (x :: l) = x.s.length + tsz l := by simp [tsz]
    rcases List.mem_cons.1 h with rfl | h
    · omega
    · have := tsz_mem h; omega
/-- Two tokens of rows beside each other. -/
def E2T (w : World) (g g' o : Nat) (x y : Tk) (w' : World) : Prop :=
  w'.cell? ⟨g, o, none⟩ = some (.int .i64 x.k) ∧ w'.cell? ⟨g, o + 1, none⟩ = some (.string (sb x.s)) ∧ w'.cell? ⟨g', o, none⟩ = some (.int .i64 y.k) ∧ w'.cell? ⟨g', o + 1, none⟩ = some (.string (sb y.s)) ∧ g < w'.heap.size ∧ g' < w'.heap.size ∧ Below w.heap.size w w'
theorem E2T.drew {w w' : World} {g g' o : Nat} {x y : Tk} (h : E2T w g g' o x y w') : E2T w g g' o x y w'.drew :=
  let ⟨a0, a1, b0, b1, z, z', l⟩ := h; ⟨a0, a1, b0, b1, z, z', l.drew⟩
theorem E2T.below {w w1 w2 : World} {g g' o : Nat} {x y : Tk} (h : E2T w g g' o x y w1) (hb : Below w1.heap.size w1 w2) : E2T w g g' o x y w2 :=
  let ⟨a0, a1, b0, b1, z, z', l⟩ := h
  ⟨cell_below a0 hb z, cell_below a1 hb z, cell_below b0 hb z', cell_below b1 hb z', Nat.lt_of_lt_of_le z hb.size, Nat.lt_of_lt_of_le z' hb.size, below_up l hb l.size⟩
attribute [local irreducible] World.cell?
set_option maxRecDepth 100000 in
set_option maxHeartbeats 800000 in
theorem toTk (x : Tk) (w : World) :
    Calls Try.prog 25 #[.agg #[.int .i64 x.k, .string (sb x.s)]] w fun e w' => e = .returned (.agg #[.int .i64 x.k, .string (sb x.s)]) ∧ Below w.heap.size w w' := by
  go_enter Try.func25, Try.ntmps25
  go_wp2_with fail
  refine bodyPost_ret (v := .agg #[.int .i64 x.k, .string (sb x.s)]) (by simp [results, Try.results25, go_sem]) rfl ⟨rfl, ?_⟩
  go_grown
set_option maxRecDepth 100000 in
set_option maxHeartbeats 800000 in
theorem eqTk (x : Tk) (w : World) :
    Calls Try.prog 41 #[.agg #[.int .i64 x.k, .string (sb x.s)], .agg #[.int .i64 x.k, .string (sb x.s)]] w fun e w' => e = .returned (.bool true) ∧ Below w.heap.size w w' := by
  generalize sb x.s = T at *
  go_enter Try.func41, Try.ntmps41
  go_wp2_with fail
  go_returns
  exact ⟨rfl, by go_grown⟩
set_option maxRecDepth 100000 in
set_option maxHeartbeats 800000 in
theorem szTk (k : Int) (T : ByteArray) (l : Int) (w : World) (hT : T.size ≤ maxLen) (l0 : 0 ≤ l) (l1 : l ≤ 1048576) :
    Calls Try.prog 23 #[.agg #[.int .i64 k, .string T], .int .i64 l] w fun e w' => e = .returned (.int .i64 (if (T.size : Int) ≤ l then l - T.size else -1)) ∧ Below w.heap.size w w' := by
  unfold maxLen at hT
  by_cases h : (T.size : Int) ≤ l
  · rw [if_pos h]
    have h' : ¬ (l - (T.size : Int) < 0) := by omega
    go_enter Try.func23, Try.ntmps23
    go_wp2_with fail
    go_ret
    exact ⟨rfl, by go_grown⟩
  · rw [if_neg h]
    have h' : l - (T.size : Int) < 0 := by omega
    go_enter Try.func23, Try.ntmps23
    go_wp2_with fail
    go_ret
    exact ⟨rfl, by go_grown⟩
set_option maxRecDepth 100000 in
set_option maxHeartbeats 1600000 in
theorem toTks (a0 : Option Addr) (cap B : Nat) (l : List Tk) (w : World) (hin : TkIn w B a0 l) (hB : B ≤ w.heap.size) (hn2 : l.length ≤ 1048576) :
    Calls Try.prog 27 #[.slice a0 l.length cap] w fun e w' => ∃ v, e = .returned v ∧ tkE.Sl w' w.heap.size v l ∧ Below w.heap.size w w' := by
  obtain ⟨i0, hi, hz0, hz1, hz2⟩ := info_parts infoTk
  have Hin := Lib.hid (hin.mono hB)
  clear hin
  go_enter Try.func27, Try.ntmps27
  go_wp2_with (first | (at_make; refine wpList_make_full _ rfl _ _ 24 rfl w.heap.size 31 i0 (.agg #[.int .i64 0, .string ⟨#[]⟩]) 2 Try.underlying24 hi hz0 hz1 .i64 .i64 l.length l.length l.length rfl rfl rfl rfl (by rw [hz2]; omega) (by unfold maxLen; omega) (Nat.le_refl _) ?_))
  intro w1 hown hgrow
  have hb1 : Below w.heap.size w w1 := (Below.refl _ _).grown hgrow (Nat.le_refl _) (fun k hk => by cases hk)
  have hrow1 : tkE.Row w1 w.heap.size (List.replicate l.length zeroT) := by
    rcases hown.2 with ⟨h, _⟩ | ⟨g, cap, cur, hv, hb, hg, _, _, hs, ht⟩
    · cases h
    · obtain ⟨rfl, rfl⟩ : g = w.heap.size ∧ cap = l.length := by injection hv with hv _ hv2; injection hv with hv; injection hv with hv; exact ⟨hv.symm, hv2.symm⟩
      refine ⟨cur, hg, ?_⟩
      rw [List.length_replicate, ← made_tks l.length]
      first | exact ht | simpa [tkE] using ht
  have Hb1 := Lib.hid hb1
  have Hrow1 := Lib.hid hrow1
  clear hown hgrow hb1 hrow1
  go_wp2_with fail
  go_loopg [4] l.length (fun n i wr => ∃ j : Nat, n = l.length - j ∧ j ≤ l.length ∧ i = .int .i64 j ∧ Hid (tkE.Row wr w.heap.size (l.take j ++ List.replicate (l.length - j) zeroT)) ∧ Hid (Below w.heap.size w wr))
  case atStart => exact ⟨0, rfl, Nat.zero_le _, rfl, by simpa using Hrow1, Hb1⟩
  case round =>
    obtain ⟨j, rfl, hj, rfl, Hrow, Hb⟩ := hrel
    by_cases hlt : j < l.length
    · obtain ⟨b, off, rfl, hbB, hcells⟩ := (Hin.out.below Hb.out).2.2 (by omega)
      obtain ⟨x, hx⟩ : ∃ x, l[j]? = some x := ⟨l[j], List.getElem?_eq_getElem hlt⟩
      obtain ⟨c0, c1⟩ := hcells j x hx
      have Hd := Lib.hid (toTk x wr)
      clear hcells
      go_wp2_with fail
      refine (Hd.out).mono ?_
      rintro e w2 ⟨rfl, hb2⟩
      have hr2 := Hrow.out.below hb2 Hrow.out.lt
      obtain ⟨e0, e1⟩ := TRow.cells hr2 (halfT_at hlt)
      have f1 := fun o => hr2.free o
      have hgl := hr2.lt
      have hr3 := TRow.put hr2 (j := j) (by simp; omega) x
      rw [halfT_set hx] at hr3
      have Hr3 := Lib.hid hr3
      have Hb2 := Lib.hid (Hb.out.trans (hb2.mono Hb.out.size))
      clear hr3 hr2 hb2 Hrow Hd hx
      go_wp2_with fail
      go_roundg (l.length - (j + 1))
      case measure => omega
      case rel =>
        refine ⟨j + 1, rfl, by omega, by go_num, Hr3, ?_⟩
        have := Hb2.out
        show Below _ _ _
        go_grown
    · obtain rfl : j = l.length := by omega
      go_wp2_with fail
      go_ret
      refine ⟨_, rfl, Enc.Sl.mk rfl (Nat.le_refl _) (Nat.le_refl _) ?_, Hb.out⟩
      simpa using Hrow.out
set_option maxRecDepth 100000 in
set_option maxHeartbeats 1600000 in
theorem eqTks (B C : Nat) (v u : Value) (l : List Tk) (w : World) (hv : tkE.Sl w B v l) (hu : tkE.Sl w C u l) (hm : l.length ≤ 1048576) :
    Calls Try.prog 20 #[v, u] w fun e w' => e = .returned (.bool true) ∧ Below w.heap.size w w' := by
  obtain ⟨a, cap, rfl, hcap, hr⟩ := hv
  obtain ⟨a', cap', rfl, hcap', hr'⟩ := hu
  have Hr := Lib.hid hr
  have Hr' := Lib.hid hr'
  clear hr hr'
  have hd2 : ((l.length : Int) != l.length) = false := by simp
  go_enter Try.func20, Try.ntmps20
  go_wp2_with fail
  go_loopg [5] l.length (fun n i wr => ∃ j : Nat, n = l.length - j ∧ j ≤ l.length ∧ i = .int .i64 j ∧ Hid (Below w.heap.size w wr))
  case atStart => exact ⟨0, rfl, Nat.zero_le _, rfl, Below.refl _ _⟩
  case round =>
    obtain ⟨j, rfl, hj, rfl, Hb⟩ := hrel
    by_cases hlt : j < l.length
    · obtain ⟨g, rfl, _, hrow⟩ := Hr.out (by omega)
      obtain ⟨g', rfl, _, hrow'⟩ := Hr'.out (by omega)
      obtain ⟨x, hx⟩ : ∃ x, l[j]? = some x := ⟨l[j], List.getElem?_eq_getElem hlt⟩
      have r1 := hrow.below Hb.out hrow.lt
      have r2 := hrow'.below Hb.out hrow'.lt
      obtain ⟨c0, c1⟩ := TRow.cells r1 hx
      obtain ⟨d0, d1⟩ := TRow.cells r2 hx
      have He := Lib.hid (fun W => eqTk x W)
      have hgl := r1.lt
      have hgl' := r2.lt
      have hS : E2T w g g' (j * 2) x x wr := ⟨c0, c1, d0, d1, r1.lt, r2.lt, Hb.out⟩
      clear r1 r2 hrow hrow' hx
      go_upto_region 6 with fail
      go_region_held3 (fun w' => w'.cell? ⟨g, j * 2, none⟩ = some (.int .i64 x.k) ∧ w'.cell? ⟨g, j * 2 + 1, none⟩ = some (.string (sb x.s)) ∧ w'.cell? ⟨g', j * 2, none⟩ = some (.int .i64 x.k) ∧ w'.cell? ⟨g', j * 2 + 1, none⟩ = some (.string (sb x.s)) ∧ g < w'.heap.size ∧ g' < w'.heap.size ∧ Below w.heap.size w w') (first | (show E2T w g g' (j * 2) x x _; (with_reducible exact hS.drew)) | (show E2T w g g' (j * 2) x x _; (with_reducible refine E2T.below ?_ hbR); first | assumption | exact ⟨by assumption, by assumption, by assumption, by assumption, by assumption, by assumption, by assumption⟩))
        (first | (go_at_call 41; (with_reducible refine (He.out _).mono ?_); rintro e wR ⟨rfl, hbR⟩))
      have Hb2 := Lib.hid (below_up Hb.out.drew hbR Hb.out.size)
      go_wp2_with fail
      go_roundg (l.length - (j + 1))
      case measure => omega
      case rel => exact ⟨j + 1, rfl, by omega, by go_num, Hb2⟩
    · obtain rfl : j = l.length := by omega
      go_wp2_with fail
      go_ret
      exact ⟨rfl, Hb.out⟩
end Go.Proofs.Ytgicldokglpimaa
