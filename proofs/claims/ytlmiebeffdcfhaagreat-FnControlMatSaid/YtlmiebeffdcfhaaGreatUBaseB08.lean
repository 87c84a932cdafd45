/- BaseB08: several of our texts in one: PeD GtA MtL IsL IsO. -/
import Derived.Test.YtlmiebeffdcfhaaGreatUBaseB22
import Derived.Test.YtlmiebeffdcfhaaGreatUBaseB12
import Derived.Test.YtlmiebeffdcfhaaGreatUBaseB02
import Derived.Test.YtlmiebeffdcfhaaGreatUMtR
import Derived.Test.YtlmiebeffdcfhaaGreatUBaseB18
import Derived.Deep.Slices
import Derived.OpenShut
namespace Go.Proofs.YtlmiebeffdcfhaaGreat
open Go.RowKit
theorem infoInt : (Tryz.prog.info? 3).map (fun i => (i.zero, i.size, i.bytes)) = some (some (.int .i64 0), 1, 8) := by kernel_rfl
/-- The first n integers. -/
def upL (n : Nat) : List Int := (List.range n).map fun (i : Nat) => (i : Int)
theorem upL_len (n : Nat) : (upL n).length = n := by simp [upL]
theorem upL_snoc (n : Nat) : upL (n + 1) = upL n ++ [(n : Int)] := by unfold upL; rw [List.range_succ, List.map_append]; rfl
theorem upL_mem {n : Nat} {x : Int} (h : x ∈ upL n) : 0 ≤ x ∧ x < n := by
  unfold upL at h
  obtain ⟨i, hi, rfl⟩ := List.mem_map.1 h
  have := List.mem_range.1 hi
  omega
theorem one_int (i : Int) : ∀ u ∈ [Value.int .i64 i], u.oneCell' = true := intE.one i
attribute [local irreducible] World.cell?
set_option maxRecDepth 100000 in
set_option maxHeartbeats 1600000 in
theorem sidP_yes (n : Nat) (w : World) (h1 : 1 ≤ n) (h4 : n ≤ 4) :
    Calls Tryz.prog 140 #[.int .i64 n] w fun e w' => ∃ v, e = .returned v ∧ intE.Sl w' w.heap.size v (upL n) ∧ Below w.heap.size w w' := by
  obtain ⟨i0, hi, hz0, hz1, hz2⟩ := info_parts infoInt
  have H1 := Lib.hid (fun w => lin_any n 1 4 true w (by simp; omega))
  go_enter Tryz.func140, Tryz.ntmps140
  go_wp2_with fail
  go_loopg [3, 4] n (fun k out i wr => ∃ j : Nat, k = n - j ∧ j ≤ n ∧ i = .int .i64 j ∧ Hid (wr.ownsRow w.heap.size 3 1 out j (intE.flat (upL j))) ∧ Hid (Below w.heap.size w wr))
  case atStart => exact ⟨0, rfl, Nat.zero_le _, rfl, Lib.hid (Enc.own_nil (E := intE) rfl), Lib.hid (by go_grown)⟩
  case round =>
    obtain ⟨j, rfl, hj, rfl, Hown, Hb⟩ := hrel
    have hs := Hb.out.size
    by_cases hlt : j < n
    · have hd : decide ((j : Int) < n) = true := decide_eq_true (by omega)
      have Hstep := Lib.hid (show intE.flat (upL j) ++ [.int .i64 (j : Int)] = intE.flat (upL (j + 1)) by rw [upL_snoc, intE.flat_app]; rfl)
      have Hnew := Lib.hid (Enc.new_row (E := intE) wr (j : Int) #[.int .i64 (j : Int)] rfl)
      go_wp2_with fail
      refine (H1.out _).mono ?_
      rintro e w2 ⟨rfl, rfl⟩
      go_wp2_with (first
        | (at_builtin; refine wpList_append_own _ rfl _ _ 52 rfl w.heap.size 3 i0 (.int .i64 0) 1 8 Tryz.underlying52 hi hz0 hz1 hz2 rfl (by decide) _ _ _ rfl (Hown.out.alloc _) ⟨wr.heap.size, 0, none⟩ 1 1 [.int .i64 (j : Int)] rfl rfl Hnew.out (one_int _) ?d3 ?d4 ?d5 ?_))
      case d3 => unfold maxLen; omega
      case d4 => omega
      case d5 => first | omega | (simp; omega)
      intro v' w4 hown' hgrow _
      have HB4 := Lib.hid ((Hb.out.alloc hs (.cells #[.int .i64 (j : Int)] 3)).grown hgrow (by simp; omega) (fun q hq => by have := Hown.out.lt q hq; omega))
      rw [Hstep.out] at hown'
      have Hown4 := Lib.hid hown'
      clear hown' hgrow
      go_wp2_with fail
      go_roundg (n - (j + 1))
      case measure => omega
      case rel => exact ⟨j + 1, rfl, by omega, by go_num, Hown4, HB4⟩
    · obtain rfl : j = n := by omega
      have hd : decide ((j : Int) < j) = false := by simp
      have hown := Hown.out
      rw [show j = (upL j).length from (upL_len j).symm, upL_len j] at hown
      have Hout := Lib.hid (Enc.Sl.of_own (E := intE) (l := upL j) (by rw [upL_len]; exact hown))
      clear hown
      go_wp2_with fail
      refine (H1.out _).mono ?_
      rintro e w2 ⟨rfl, rfl⟩
      go_wp2_with fail
      go_ret
      exact ⟨_, rfl, Hout.out, Hb.out⟩
set_option maxRecDepth 100000 in
set_option maxHeartbeats 3200000 in
theorem perm_any (B n : Nat) (w : World) (hcur : CurAt w B) (hB : B < w.heap.size) (h1 : 1 ≤ n) (h4 : n ≤ 4) :
    Calls Tryz.prog 127 #[.pointer (some ⟨B, 0, none⟩), .int .i64 n] w fun e w' => (∃ v l, e = .returned v ∧ List.length l = n ∧ (∀ x ∈ l, 0 ≤ x ∧ x < (n : Int)) ∧ intE.Sl w' w.heap.size v l) ∧ CurAt w' B ∧ Own B w w' := by
  go_enter Tryz.func127, Tryz.ntmps127
  go_wp2_with fail
  refine (sidP_yes n _ h1 h4).mono ?_
  rintro e w1 ⟨v, rfl, hd, hb1⟩
  have Hc1 := Lib.hid (hcur.below hb1 hB)
  have Ho1 := Lib.hid (show Own B w w1 from own_of_below hb1)
  have hs1 := hb1.size
  obtain ⟨a, cap, rfl, hcap, hr⟩ := hd
  obtain ⟨g, rfl, hg, hrow⟩ := hr (by rw [upL_len]; omega)
  have Hrow := Lib.hid hrow
  clear hb1 hr hrow hcur
  rw [upL_len] at hcap ⊢
  go_wp2_with fail
  go_loopg [6] (n - 1) (fun n' i wr => ∃ (k : Nat) (l : List Int), k = n' ∧ i = .int .i64 (k : Int) ∧ k < n ∧ l.length = n ∧ Hid (∀ x ∈ l, 0 ≤ x ∧ x < (n : Int)) ∧ Hid (intE.Row wr g l) ∧ Hid (CurAt wr B) ∧ Hid (Own B w wr) ∧ g < wr.heap.size)
  case atStart => exact ⟨n - 1, upL n, rfl, by congr 1; omega, by omega, upL_len n, Lib.hid (fun x hx => upL_mem hx), Hrow, Hc1, Ho1, Hrow.out.lt⟩
  case round =>
    obtain ⟨k, l, rfl, rfl, hk, hl, Hbd, Hr, Hc, Ho, hgl⟩ := hrel
    by_cases h0 : k = 0
    · subst h0
      go_wp2_with fail
      go_ret
      exact ⟨⟨_, l, rfl, hl, Hbd.out, Enc.Sl.mk hl.symm hcap (by omega) Hr.out⟩, Hc.out, Ho.out⟩
    · obtain ⟨m, rfl⟩ : ∃ m, k = m + 1 := ⟨k - 1, by omega⟩
      have hgB : g ≠ B := by omega
      have hgw : w.heap.size ≤ g := by omega
      go_wp2_with fail
      refine (below_any B ((m : Int) + 1 + 1) _ Hc.out (by omega) (by omega)).mono ?_
      rintro e w2 ⟨⟨x, x0, x1, rfl⟩, hc2, ho2⟩
      obtain ⟨q, rfl⟩ : ∃ q : Nat, x = q := ⟨x.toNat, by omega⟩
      have hq : q < n := by omega
      have hr2 := Hr.out.own ho2 hgB
      have Hr2 := Lib.hid hr2
      have Hc2 := Lib.hid hc2
      have Ho2 := Lib.hid (own_trans Ho.out ho2)
      have hs2 := ho2.size
      obtain ⟨a, ha⟩ : ∃ a, l[m + 1]? = some a := ⟨l[m + 1], List.getElem?_eq_getElem (by omega)⟩
      obtain ⟨b, hb⟩ : ∃ b, l[q]? = some b := ⟨l[q], List.getElem?_eq_getElem (by omega)⟩
      have ca := IRow.cell hr2 ha
      have cb := IRow.cell hr2 hb
      have f1 := fun o => hr2.free o
      have Hr3 := Lib.hid (IRow.put (IRow.put hr2 (j := m + 1) (by omega) b) (j := q) (by simp; omega) a)
      have Hc3 := Lib.hid (hc2.own (C := g) (own_set (own_set (own_refl g w2) (m + 1) (.int .i64 b)) q (.int .i64 a)) (by omega))
      have Ho3 := Lib.hid (own_dn (own_dn Ho2.out (m + 1) (.int .i64 b) hgw) q (.int .i64 a) hgw)
      have hba := Hbd.out a (List.mem_of_getElem? ha)
      have hbb := Hbd.out b (List.mem_of_getElem? hb)
      have Hbd3 := Lib.hid (show ∀ x ∈ (l.set (m + 1) b).set q a, 0 ≤ x ∧ x < (n : Int) from fun x hx => by
        rcases List.mem_or_eq_of_mem_set hx with h | rfl
        · rcases List.mem_or_eq_of_mem_set h with h | rfl
          · exact Hbd.out x h
          · exact hbb
        · exact hba)
      have Hab := Lib.hid (fun (e : q = m + 1) => show b = a by subst e; rw [ha] at hb; injection hb with hb; exact hb.symm)
      clear hr2 hc2 ho2 Hr Hc Ho ha hb hba hbb Hbd Hr2 Hc2 Ho2
      by_cases hqm : q = m + 1
      · obtain rfl := Hab.out hqm
        subst hqm
        go_wp2_with fail
        go_roundg m
        case measure => omega
        case rel => exact ⟨m, _, rfl, by go_num, by omega, by simpa using hl, Hbd3, Hr3, Hc3, Ho3, by simp [World.setCell]; omega⟩
      · go_wp2_with fail
        go_roundg m
        case measure => omega
        case rel => exact ⟨m, _, rfl, by go_num, by omega, by simpa using hl, Hbd3, Hr3, Hc3, Ho3, by simp [World.setCell]; omega⟩
end Go.Proofs.YtlmiebeffdcfhaaGreat
namespace Go.Proofs.YtlmiebeffdcfhaaGreat
open Go.RowKit
/-- A gate: its kind and three qubits. -/
structure Gt where
  k : Int
  a : Int
  b : Int
  c : Int
/-- The number of qubits of a kind. -/
def ar (k : Int) : Nat := if 1 ≤ k ∧ k ≤ 8 then 1 else if 9 ≤ k ∧ k ≤ 11 then 2 else if k = 12 then 3 else 0
theorem ar_le (k : Int) : ar k ≤ 3 := by unfold ar; (repeat' split) <;> omega
/-- The qubits of a gate. -/
def gqs (g : Gt) : List Int := [g.a, g.b, g.c].take (ar g.k)
/-- Gates, four cells each. -/
def gtE : Enc Gt := ⟨fun g => [.int .i64 g.k, .int .i64 g.a, .int .i64 g.b, .int .i64 g.c], 4, 25, fun _ => rfl, fun x u h => by simp at h; rcases h with rfl | rfl | rfl | rfl <;> rfl⟩
/-- Whether a gate's qubit j is as it must be: 0 where the gate has none, else from 0 to hi and none of the earlier ones. -/
def gtOk (g : Gt) (hi : Int) (j : Nat) : Bool :=
  if ar g.k ≤ j then decide ([g.a, g.b, g.c].getD j 0 = 0) else decide (0 ≤ [g.a, g.b, g.c].getD j 0 ∧ [g.a, g.b, g.c].getD j 0 ≤ hi) && !decide ([g.a, g.b, g.c].getD j 0 ∈ (gqs g).take j)
/-- IsValidGate. -/
def gtB (g : Gt) (n : Int) : Bool := (List.range 3).all (gtOk g (IntKind.i64.wrap (n - 1))) && (decide (0 < ar g.k) && decide (1 ≤ n ∧ n ≤ 4))
attribute [local irreducible] World.cell?
set_option maxRecDepth 100000 in
set_option maxHeartbeats 800000 in
theorem sar (k : Int) (w : World) :
    Calls Tryz.prog 95 #[.int .i64 k] w fun e w' => e = .returned (.int .i64 (ar k)) ∧ w = w' := by
  by_cases h1 : 1 ≤ k ∧ k ≤ 8
  · rw [show ar k = 1 from if_pos h1]
    have H1 := Lib.hid (fun w => lin_any k 1 8 true w (decide_eq_true h1))
    clear h1
    go_enter Tryz.func95, Tryz.ntmps95
    go_wp2_with fail
    refine (H1.out _).mono ?_
    rintro e w1 ⟨rfl, rfl⟩
    go_wp2_with fail
    go_ret
    exact ⟨rfl, rfl⟩
  · by_cases h2 : 9 ≤ k ∧ k ≤ 11
    · rw [show ar k = 2 by unfold ar; rw [if_neg h1, if_pos h2]]
      have H1 := Lib.hid (fun w => lin_any k 1 8 false w (decide_eq_false h1))
      have H2 := Lib.hid (fun w => lin_any k 9 11 true w (decide_eq_true h2))
      clear h1 h2
      go_enter Tryz.func95, Tryz.ntmps95
      go_wp2_with fail
      refine (H1.out _).mono ?_
      rintro e w1 ⟨rfl, rfl⟩
      go_wp2_with fail
      refine (H2.out _).mono ?_
      rintro e w2 ⟨rfl, rfl⟩
      go_wp2_with fail
      go_ret
      exact ⟨rfl, rfl⟩
    · have H1 := Lib.hid (fun w => lin_any k 1 8 false w (decide_eq_false h1))
      have H2 := Lib.hid (fun w => lin_any k 9 11 false w (decide_eq_false h2))
      by_cases h3 : k = 12
      · subst h3
        rw [show ar 12 = 3 from rfl]
        clear h1 h2
        go_enter Tryz.func95, Tryz.ntmps95
        go_wp2_with fail
        refine (H1.out _).mono ?_
        rintro e w1 ⟨rfl, rfl⟩
        go_wp2_with fail
        refine (H2.out _).mono ?_
        rintro e w2 ⟨rfl, rfl⟩
        go_wp2_with fail
        go_ret
        exact ⟨rfl, rfl⟩
      · rw [show ar k = 0 by unfold ar; rw [if_neg h1, if_neg h2, if_neg h3]]
        have h4 : (k == 12) = false := by simpa using h3
        clear h1 h2 h3
        go_enter Tryz.func95, Tryz.ntmps95
        go_wp2_with fail
        refine (H1.out _).mono ?_
        rintro e w1 ⟨rfl, rfl⟩
        go_wp2_with fail
        refine (H2.out _).mono ?_
        rintro e w2 ⟨rfl, rfl⟩
        go_wp2_with fail
        go_ret
        exact ⟨rfl, rfl⟩
theorem gqs_len (g : Gt) : (gqs g).length = ar g.k := by unfold gqs; rw [List.length_take]; have := ar_le g.k; simp; omega
set_option maxRecDepth 100000 in
set_option maxHeartbeats 1600000 in
theorem sgqs (g : Gt) (w : World) :
    Calls Tryz.prog 69 #[(.agg #[.int .i64 g.k, .int .i64 g.a, .int .i64 g.b, .int .i64 g.c])] w fun e w' => ∃ v, e = .returned v ∧ intE.Sl w' w.heap.size v (gqs g) ∧ Below w.heap.size w w' := by
  obtain ⟨i0, hi, hz0, hz1, hz2⟩ := info_parts infoInt
  have Ha := Lib.hid (fun w => sar g.k w)
  have hL := gqs_len g
  have h3 := ar_le g.k
  have hrow : intE.Row (((w.alloc (.cells #[.int .i64 g.k, .int .i64 g.a, .int .i64 g.b, .int .i64 g.c] 25)).alloc (.cells #[.int .i64 g.a, .int .i64 g.b, .int .i64 g.c] 3)).alloc (.cells #[] 3)) (w.heap.size + 1) (gqs g) := by
    have h1 : ((w.alloc (.cells #[.int .i64 g.k, .int .i64 g.a, .int .i64 g.b, .int .i64 g.c] 25)).alloc (.cells #[.int .i64 g.a, .int .i64 g.b, .int .i64 g.c] 3)).heap[w.heap.size + 1]? = some (.cells #[.int .i64 g.a, .int .i64 g.b, .int .i64 g.c] 3 (0, 0)) := by
      simpa using heap_alloc_new (w.alloc (.cells #[.int .i64 g.k, .int .i64 g.a, .int .i64 g.b, .int .i64 g.c] 25)) (.cells #[.int .i64 g.a, .int .i64 g.b, .int .i64 g.c] 3)
    exact Enc.Row.take (E := intE) (l := [g.a, g.b, g.c]) ⟨#[.int .i64 g.a, .int .i64 g.b, .int .i64 g.c], alloc_blk _ h1, rfl⟩ (ar g.k)
  have Hnew := Lib.hid (intE_src hrow)
  have Hp := Lib.hid (intE.flat_plain (gqs g))
  have Hl := Lib.hid (show (intE.flat (gqs g)).length = ar g.k * 1 by rw [intE.flat_len, hL]; rfl)
  have Hown := Lib.hid (Enc.own_nil (E := intE) (w := (w.alloc (.cells #[.int .i64 g.k, .int .i64 g.a, .int .i64 g.b, .int .i64 g.c] 25)).alloc (.cells #[.int .i64 g.a, .int .i64 g.b, .int .i64 g.c] 3)) (n := w.heap.size + 2) (by simp))
  have HB := Lib.hid (show Below w.heap.size w (((w.alloc (.cells #[.int .i64 g.k, .int .i64 g.a, .int .i64 g.b, .int .i64 g.c] 25)).alloc (.cells #[.int .i64 g.a, .int .i64 g.b, .int .i64 g.c] 3)).alloc (.cells #[] 3)) by go_grown)
  clear hrow
  generalize ar g.k = t at *
  have HL := Lib.hid hL
  clear hL
  go_enter Tryz.func69, Tryz.ntmps69
  go_wp2_with fail
  refine (Ha.out _).mono ?_
  rintro e w1 ⟨rfl, rfl⟩
  go_wp2_with (first
    | (at_builtin; (refine wpList_append_own _ rfl _ _ 52 rfl (w.heap.size + 2) 3 i0 (.int .i64 0) 1 8 Tryz.underlying52 hi hz0 hz1 hz2 rfl (by decide) _ _ _ rfl Hown.out ⟨w.heap.size + 1, 0, none⟩ t 3 (intE.flat (gqs g)) rfl Hl.out Hnew.out Hp.out ?d3 ?d4 ?d5 ?_)))
  case d3 => unfold maxLen; omega
  case d4 => omega
  case d5 => simp
  intro v' w4 hown' hgrow _
  have hown2 : w4.ownsRow (w.heap.size + 2) 3 1 v' t (intE.flat (gqs g)) := by
    have h : w4.ownsRow (w.heap.size + 2) 3 1 v' t ([] ++ intE.flat (gqs g)) := hown'
    rwa [List.nil_append] at h
  have HB4 := Lib.hid (HB.out.grown hgrow (by simp; omega) (fun q hq => by have := Hown.out.lt q hq; omega))
  have Hs := Lib.hid ((Enc.Sl.of_own (E := intE) (l := gqs g) (by rw [HL.out]; exact hown2)).mono (show w.heap.size ≤ w.heap.size + 2 by omega))
  clear hown' hown2 hgrow
  go_wp2_with fail
  go_ret
  exact ⟨_, rfl, Hs.out, HB4.out⟩
end Go.Proofs.YtlmiebeffdcfhaaGreat
namespace Go.Proofs.YtlmiebeffdcfhaaGreat
open Go.RowKit
/-- A matrix of the laws' fractions that came in. -/
def MtIn (w : World) (B : Nat) (a0 : Option Addr) (M : List (List Dw)) : Prop :=
  M.length ≤ maxLen ∧ (0 < M.length → ∃ b off, a0 = some ⟨b, off, none⟩ ∧ b < B ∧ ∀ j r, M[j]? = some r → ∃ a cap, w.cell? ⟨b, off + j, none⟩ = some (.slice a r.length cap) ∧ DsIn w B a r)
theorem MtIn.below {w w' : World} {B : Nat} {a0 : Option Addr} {M : List (List Dw)} (h : MtIn w B a0 M) (hb : Below B w w') : MtIn w' B a0 M :=
  ⟨h.1, fun h0 => by
    obtain ⟨b, off, e, hlt, hc⟩ := h.2 h0
    refine ⟨b, off, e, hlt, fun j r hr => ?_⟩
    obtain ⟨a, cap, c0, hd⟩ := hc j r hr
    exact ⟨a, cap, (hb.cell (by exact hlt)).trans c0, hd.below hb⟩⟩
theorem MtIn.mono {w : World} {B C : Nat} {a0 : Option Addr} {M : List (List Dw)} (h : MtIn w B a0 M) (hC : B ≤ C) : MtIn w C a0 M :=
  ⟨h.1, fun h0 => by
    obtain ⟨b, off, e, hlt, hc⟩ := h.2 h0
    refine ⟨b, off, e, by omega, fun j r hr => ?_⟩
    obtain ⟨a, cap, c0, hd⟩ := hc j r hr
    exact ⟨a, cap, c0, hd.mono hC⟩⟩
/-- The exponents of a matrix are machine integers. -/
def EbM (M : List (List Dw)) : Prop := ∀ r ∈ M, Eb r
theorem MtIn.eb {w : World} {B : Nat} {a0 : Option Addr} {M : List (List Dw)} (h : MtIn w B a0 M) : EbM M := by
  intro r hr
  obtain ⟨j, hj⟩ := List.getElem?_of_mem hr
  have h0 : 0 < M.length := by
    rcases Nat.eq_zero_or_pos M.length with k | k
    · rw [List.eq_nil_of_length_eq_zero k] at hj; simp at hj
    · exact k
  obtain ⟨b, off, e, hlt, hc⟩ := h.2 h0
  obtain ⟨a, cap, _, hd⟩ := hc j r hj
  exact hd.eb
/-- The amplitudes of a matrix. -/
def amps (M : List (List Dw)) : Nat := (M.map List.length).sum
theorem amps_step {M : List (List Dw)} {j : Nat} {r : List Dw} (hr : M[j]? = some r) : amps (M.take (j + 1)) = amps (M.take j) + r.length := by
  unfold amps
  rw [List.take_add_one, hr]
  simp
theorem amps_le {M : List (List Dw)} (j : Nat) : amps (M.take j) ≤ amps M := by
  unfold amps
  conv => rhs; rw [← List.take_append_drop j M, List.map_append, List.sum_append]
  omega
theorem amps_row {M : List (List Dw)} {j : Nat} {r : List Dw} (hr : M[j]? = some r) : r.length ≤ amps M := by
  have h1 := amps_step hr
  have h2 := amps_le (M := M) (j + 1)
  omega
theorem infoDs : (Tryz.prog.info? 59).map (fun i => (i.zero, i.size, i.bytes)) = some (some (.slice none 0 0), 1, 24) := by kernel_rfl
theorem made_slices (n : Nat) : (madeCells #[.slice none 0 0] (n * 1)).toList = List.replicate n (.slice none 0 0) := by
  induction n with
  | zero => simp [madeCells]
  | succ n ih =>
    rw [List.replicate_succ', ← ih, show (n + 1) * 1 = n * 1 + 1 by omega]
    simp only [madeCells, Array.toList_map, Array.toList_range, List.range_succ, List.map_append, List.map_cons, List.map_nil]
    congr 1
    simp [Nat.mod_one]
theorem rows_nil {w : World} {B C n : Nat} : RwS w B C (List.replicate n (.slice none 0 0)) (List.replicate n []) := by
  refine ⟨by simp, fun _ => 0, fun j v r hv hr => ?_, fun i j r s hr _ ls _ _ => ?_⟩
  · rw [List.getElem?_replicate] at hv hr
    split at hv
    · split at hr
      · injection hv with hv; injection hr with hr; subst hv hr
        exact ⟨none, 0, rfl, Nat.le_refl _, fun h => absurd h (by simp)⟩
      · omega
    · cases hv
  · rw [List.getElem?_replicate] at hr
    split at hr
    · injection hr with hr; subst hr; simp at ls
    · cases hr
theorem halfM_at {M : List (List Dw)} {j : Nat} (h : j < M.length) : (M.take j ++ List.replicate (M.length - j) ([] : List Dw))[j]? = some [] := by
  rw [List.getElem?_append_right (by simp; omega), List.getElem?_replicate, if_pos (by simp; omega)]
theorem halfM_set {M : List (List Dw)} {j : Nat} {r : List Dw} (hr : M[j]? = some r) : (M.take j ++ List.replicate (M.length - j) []).set j r = M.take (j + 1) ++ List.replicate (M.length - (j + 1)) [] := by
  have h : j < M.length := by
    rcases Nat.lt_or_ge j M.length with h' | h'
    · exact h'
    · rw [List.getElem?_eq_none h'] at hr; cases hr
  rw [List.set_append_right _ _ (by simp; omega), List.take_add_one, hr]
  rw [show M.length - j = (M.length - (j + 1)) + 1 by omega, List.replicate_succ, show j - (M.take j).length = 0 by simp; omega]
  simp
attribute [local irreducible] World.cell?
end Go.Proofs.YtlmiebeffdcfhaaGreat
namespace Go.Proofs.YtlmiebeffdcfhaaGreat
open Go.RowKit
/-- A slice of integers that came in. -/
def IsIn (w : World) (B : Nat) (a0 : Option Addr) (l : List Int) : Prop :=
  l.length ≤ maxLen ∧ (∀ x ∈ l, -9223372036854775808 ≤ x ∧ x ≤ 9223372036854775807) ∧
  (0 < l.length → ∃ b off, a0 = some ⟨b, off, none⟩ ∧ b < B ∧ ∀ j x, l[j]? = some x → w.cell? ⟨b, off + j, none⟩ = some (.int .i64 x))
theorem IsIn.below {w w' : World} {B : Nat} {a0 : Option Addr} {l : List Int} (h : IsIn w B a0 l) (hb : Below B w w') : IsIn w' B a0 l :=
  ⟨h.1, h.2.1, fun h0 => by
    obtain ⟨b, off, e, hlt, hc⟩ := h.2.2 h0
    exact ⟨b, off, e, hlt, fun j x hx => (hb.cell (by exact hlt)).trans (hc j x hx)⟩⟩
theorem IsIn.mono {w : World} {B C : Nat} {a0 : Option Addr} {l : List Int} (h : IsIn w B a0 l) (hC : B ≤ C) : IsIn w C a0 l :=
  ⟨h.1, h.2.1, fun h0 => by obtain ⟨b, off, e, hlt, hc⟩ := h.2.2 h0; exact ⟨b, off, e, by omega, hc⟩⟩
attribute [local irreducible] World.cell?
end Go.Proofs.YtlmiebeffdcfhaaGreat
namespace Go.Proofs.YtlmiebeffdcfhaaGreat
open Go.ChangeShapes Go.WideShapes Go.ChangeAt Go.RowKit Go.Lib Go.Joins
open Go.RowKit
end Go.Proofs.YtlmiebeffdcfhaaGreat
