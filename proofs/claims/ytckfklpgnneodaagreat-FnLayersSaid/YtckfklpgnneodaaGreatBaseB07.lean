/- BaseB07: several of our texts in one: DsP DsQ DsC DwDraw DsD PeD SnA DsE DsA DsI MtP VcM AdM DsN PmM DwR DsKc DsKs. -/
import Derived.Test.YtckfklpgnneodaaGreatBaseB15
import Derived.Test.YtckfklpgnneodaaGreatBaseB13
import Derived.Test.YtckfklpgnneodaaGreatDwB
import Derived.Test.YtckfklpgnneodaaGreatBaseB03
import Derived.Test.YtckfklpgnneodaaGreatDwU
import Derived.Test.YtckfklpgnneodaaGreatBaseB02
import Derived.Test.YtckfklpgnneodaaGreatBaseB01
import Derived.Test.YtckfklpgnneodaaGreatPhS
import Derived.Test.YtckfklpgnneodaaGreatDwA
import Derived.Test.YtckfklpgnneodaaGreatDwN
namespace Go.Proofs.YtckfklpgnneodaaGreat
open Go.RowKit
instance : DecidableEq Dw := fun x y => decidable_of_iff (eqDB x y = true) eqDB_iff
/-- The number of qubits of a state with n amplitudes, or 0. -/
def qc (n : Nat) : Int := if n = 2 then 1 else if n = 4 then 2 else if n = 8 then 3 else if n = 16 then 4 else 0
theorem qc_range (n : Nat) : 0 ≤ qc n ∧ qc n ≤ 4 := by unfold qc; repeat' split; all_goals omega
theorem qc_len {n : Nat} (h : 0 < qc n) : n = 2 ∨ n = 4 ∨ n = 8 ∨ n = 16 := by
  unfold qc at h
  repeat' split at h
  all_goals first | omega | simp_all
/-- IsValidState. -/
def stB (l : List Dw) : Bool := l.all okD && decide (0 < qc l.length)
theorem stB_iff {l : List Dw} : stB l = true ↔ (∀ x ∈ l, x.ok) ∧ 0 < qc l.length := by
  unfold stB
  rw [Bool.and_eq_true, List.all_eq_true, decide_eq_true_eq]
  exact ⟨fun h => ⟨fun x hx => okD_true.1 (h.1 x hx), h.2⟩, fun h => ⟨fun x hx => okD_true.2 (h.1 x hx), h.2⟩⟩
theorem stB_len {l : List Dw} (h : stB l = true) : l.length ≤ 16 := by have := qc_len (stB_iff.1 h).2; omega
/-- BasisState. -/
def basisL (n i : Int) : List Dw := if 1 ≤ n ∧ n ≤ 4 ∧ 0 ≤ i ∧ i ≤ 2 ^ n.toNat - 1 then (List.replicate (2 ^ n.toNat) .zero).set i.toNat oneD else []
end Go.Proofs.YtckfklpgnneodaaGreat
namespace Go.Proofs.YtckfklpgnneodaaGreat
open Go.RowKit
theorem qc_cases (n : Nat) : (n = 2 ∧ qc n = 1) ∨ (n = 4 ∧ qc n = 2) ∨ (n = 8 ∧ qc n = 3) ∨ (n = 16 ∧ qc n = 4) ∨ (n ≠ 2 ∧ n ≠ 4 ∧ n ≠ 8 ∧ n ≠ 16 ∧ qc n = 0) := by
  unfold qc
  by_cases h2 : n = 2
  · simp [h2]
  · by_cases h4 : n = 4
    · simp [h4]
    · by_cases h8 : n = 8
      · simp [h8]
      · by_cases h16 : n = 16
        · simp [h16]
        · simp [h2, h4, h8, h16]
set_option maxRecDepth 100000 in
set_option maxHeartbeats 800000 in
theorem squbits (a : Option Addr) (n cap : Nat) (w : World) :
    Calls Tryz.prog 74 #[.slice a n cap] w fun e w' => e = .returned (.int .i64 (qc n)) ∧ w = w' := by
  rcases qc_cases n with ⟨rfl, h⟩ | ⟨rfl, h⟩ | ⟨rfl, h⟩ | ⟨rfl, h⟩ | ⟨h2, h4, h8, h16, h⟩
  · rw [h]
    go_enter Tryz.func74, Tryz.ntmps74
    go_wp2_with fail
    go_rounds 5
    go_ret
    exact ⟨rfl, rfl⟩
  · rw [h]
    go_enter Tryz.func74, Tryz.ntmps74
    go_wp2_with fail
    go_rounds 5
    go_ret
    exact ⟨rfl, rfl⟩
  · rw [h]
    go_enter Tryz.func74, Tryz.ntmps74
    go_wp2_with fail
    go_rounds 5
    go_ret
    exact ⟨rfl, rfl⟩
  · rw [h]
    go_enter Tryz.func74, Tryz.ntmps74
    go_wp2_with fail
    go_rounds 5
    go_ret
    exact ⟨rfl, rfl⟩
  · rw [h]
    have e2 : ((n : Int) == 2) = false := by simp; omega
    have e4 : ((n : Int) == 4) = false := by simp; omega
    have e8 : ((n : Int) == 8) = false := by simp; omega
    have e16 : ((n : Int) == 16) = false := by simp; omega
    clear h2 h4 h8 h16 h
    go_enter Tryz.func74, Tryz.ntmps74
    go_wp2_with fail
    go_rounds 5
    go_ret
    exact ⟨rfl, rfl⟩
theorem all_take {α : Type} {p : α → Bool} {l : List α} {j : Nat} {x : α} (hx : l[j]? = some x) (h : (l.take j).all p = true) : (l.take (j + 1)).all p = p x := by
  rw [List.take_add_one, hx, List.all_append, h]
  simp
theorem all_no {α : Type} {p : α → Bool} {l : List α} {j : Nat} {x : α} (hx : l[j]? = some x) (h : p x = false) : l.all p = false := by
  rw [List.all_eq_false]
  exact ⟨x, List.mem_of_getElem? hx, by simp [h]⟩
attribute [local irreducible] World.cell?
set_option maxRecDepth 100000 in
set_option maxHeartbeats 1600000 in
theorem svalidSt (B : Nat) (v : Value) (l : List Dw) (w : World) (hv : DSl w B v l) (hm : l.length ≤ 1048576) :
    Calls Tryz.prog 56 #[v] w fun e w' => e = .returned (.bool (stB l)) ∧ Below w.heap.size w w' := by
  obtain ⟨a, cap, rfl, hcap, hr⟩ := hv
  have Hr := Lib.hid hr
  clear hr
  have Hst := Lib.hid (show stB l = (l.all okD && decide (0 < qc l.length)) from rfl)
  generalize stB l = S at *
  have hqr := qc_range l.length
  go_enter Tryz.func56, Tryz.ntmps56
  go_wp2_with fail
  go_loopw [3] (fun i wr => ∃ j : Nat, j ≤ l.length ∧ i = .int .i64 j ∧ Hid ((l.take j).all okD = true) ∧ Hid (Below w.heap.size w wr)) (fun i _ => l.length - (intOf i).toNat)
  case atStart => exact ⟨0, Nat.zero_le _, rfl, Lib.hid (by simp), Below.refl _ _⟩
  case round =>
    obtain ⟨j, hj, rfl, Hall, Hb⟩ := hrel
    by_cases hlt : j < l.length
    · obtain ⟨g, rfl, _, hrow⟩ := Hr.out (by omega)
      obtain ⟨x, hx⟩ : ∃ x, l[j]? = some x := ⟨l[j], List.getElem?_eq_getElem hlt⟩
      have r1 := hrow.below Hb.out hrow.lt
      obtain ⟨c0, c1, c2, c3, c4⟩ := r1.cells hx
      have Hv := Lib.hid (svalidD x wr)
      have Hx := Lib.hid hx
      clear hx r1 hrow
      cases ho : okD x with
      | false =>
        rw [ho] at Hv
        have hS : S = false := by rw [Hst.out, all_no Hx.out ho]; rfl
        subst hS
        go_wp2_with fail
        refine (Hv.out).mono ?_
        rintro e w2 ⟨rfl, hb2⟩
        have Hb2 := Lib.hid (Hb.out.trans (hb2.mono Hb.out.size))
        clear hb2
        go_wp2_with fail
        go_ret
        exact ⟨rfl, Hb2.out⟩
      | true =>
        rw [ho] at Hv
        go_wp2_with fail
        refine (Hv.out).mono ?_
        rintro e w2 ⟨rfl, hb2⟩
        have Hb2 := Lib.hid (Hb.out.trans (hb2.mono Hb.out.size))
        clear hb2
        go_wp2_with fail
        go_roundw
        case rel => exact ⟨j + 1, by omega, by go_num, (all_take Hx.out Hall.out).trans ho, Hb2⟩
        case measure => simp [intOf]; omega
    · obtain rfl : j = l.length := by omega
      have hall : l.all okD = true := by have := Hall.out; rwa [List.take_length] at this
      have hS : S = decide (0 < qc l.length) := by rw [Hst.out, hall]; rfl
      subst hS
      have Hq := Lib.hid (squbits a l.length cap wr)
      go_wp2_with fail
      refine (Hq.out).mono ?_
      rintro e w2 ⟨rfl, rfl⟩
      go_wp2_with fail
      go_ret
      exact ⟨rfl, Hb.out⟩
end Go.Proofs.YtckfklpgnneodaaGreat
namespace Go.Proofs.YtckfklpgnneodaaGreat
open Go.RowKit
theorem fl_new (w : World) (y : Dw) (t : TypeId) : ∀ j u, (fl y)[j]? = some u → (w.alloc (.cells #[.int .i64 y.n.a, .int .i64 y.n.b, .int .i64 y.n.c, .int .i64 y.n.d, .int .i64 y.e] t)).cell? ((⟨w.heap.size, 0, none⟩ : Addr).add j) = some u := by
  intro j u hj
  match j, hj with
  | 0, hj => simp [fl] at hj; subst hj; simp [Addr.add]
  | 1, hj => simp [fl] at hj; subst hj; simp [Addr.add]
  | 2, hj => simp [fl] at hj; subst hj; simp [Addr.add]
  | 3, hj => simp [fl] at hj; subst hj; simp [Addr.add]
  | 4, hj => simp [fl] at hj; subst hj; simp [Addr.add]
  | j + 5, hj => simp [fl] at hj
theorem own_new {w : World} {n : Nat} {t : TypeId} (h : n = w.heap.size) : (w.alloc (.cells #[] t)).ownsRow n t 5 (.slice (some ⟨n, 0, none⟩) 0 0) 0 (flat []) := by
  subst h; exact World.ownsRow_lit w #[] 0 (Nat.le_refl _) (Nat.zero_le _) rfl
theorem fl_plain (y : Dw) : ∀ u ∈ fl y, u.oneCell' = true := by
  intro u hu
  simp [fl] at hu
  rcases hu with rfl | rfl | rfl | rfl | rfl <;> rfl
attribute [local irreducible] World.cell?
end Go.Proofs.YtckfklpgnneodaaGreat
namespace Go.Proofs.YtckfklpgnneodaaGreat
open Go.RowKit
theorem CurAt.drew {B : Nat} {w : World} (h : CurAt w B) : CurAt w.drew B := h
attribute [local irreducible] World.cell?
set_option maxRecDepth 100000 in
set_option maxHeartbeats 800000 in
theorem pickB (B b n cap : Nat) (l : List Int) (w : World) (hcur : CurAt w B) (hl : ListAt w b n (fun j => .int .i64 (l.getD j 0))) (hne : b ≠ B) (h1 : 1 ≤ n) (h2 : n ≤ 1000000) (hn : n = l.length) (lo hi : Int) (hb : ∀ v ∈ l, lo ≤ v ∧ v ≤ hi) :
    Calls Tryz.prog 29 #[.pointer (some ⟨B, 0, none⟩), .slice (some ⟨b, 0, none⟩) n cap] w fun e w' => (∃ v : Int, lo ≤ v ∧ v ≤ hi ∧ e = .returned (.int .i64 v)) ∧ CurAt w' B ∧ Own B w w' := by
  refine (pickInt_any B b n cap (fun j => l.getD j 0) w hcur hl hne h1 h2).mono ?_
  rintro e w1 ⟨⟨j, hj, rfl⟩, hc, ho⟩
  have hm : l.getD j 0 ∈ l := by rw [List.getD_eq_getElem?_getD, List.getElem?_eq_getElem (by omega)]; exact List.getElem_mem _
  exact ⟨⟨_, (hb _ hm).1, (hb _ hm).2, rfl⟩, hc, ho⟩
end Go.Proofs.YtckfklpgnneodaaGreat
namespace Go.Proofs.YtckfklpgnneodaaGreat
open Go.RowKit
theorem row_own {w w' : World} {base B : Nat} {e : TypeId} {size : Nat} {v : Value} {n : Nat} {xs : List Value} (h : w.ownsRow base e size v n xs) (ho : Own B w w') (hB : B < base) : w'.ownsRow base e size v n xs := by
  obtain ⟨h1, h2⟩ := h
  refine ⟨h1, ?_⟩
  rcases h2 with h2 | ⟨g, cap, cur, a, b, c, d⟩
  · exact .inl h2
  · exact .inr ⟨g, cap, cur, a, b, by rw [ho.block g (lt_of_block c) (by intro e; injection e with e; omega)]; exact c, d⟩
theorem DSl.own {w w' : World} {B C : Nat} {v : Value} {l : List Dw} (h : DSl w C v l) (ho : Own B w w') (hB : B < C) : DSl w' C v l :=
  h.block fun g hg hl => ho.block g hl (by intro e; injection e with e; omega)
/-- The exponents of a row are machine integers. -/
def Eb (l : List Dw) : Prop := ∀ x ∈ l, -9223372036854775808 ≤ x.e ∧ x.e ≤ 9223372036854775807
theorem Eb.snoc {l : List Dw} {x : Dw} (h : Eb l) (hx : -9223372036854775808 ≤ x.e ∧ x.e ≤ 9223372036854775807) : Eb (l ++ [x]) := by
  intro y hy
  rcases List.mem_append.1 hy with hy | hy
  · exact h y hy
  · obtain rfl : y = x := by simpa using hy
    exact hx
theorem Eb.set {l : List Dw} {x : Dw} (h : Eb l) (j : Nat) (hx : -9223372036854775808 ≤ x.e ∧ x.e ≤ 9223372036854775807) : Eb (l.set j x) := by
  intro y hy
  rcases List.mem_or_eq_of_mem_set hy with hy | rfl
  · exact h y hy
  · exact hx
theorem Eb.take {l : List Dw} (h : Eb l) (j : Nat) : Eb (l.take j) := fun y hy => h y (List.mem_of_mem_take hy)
theorem flat_snoc (l : List Dw) (y : Dw) : flat l ++ fl y = flat (l ++ [y]) := by rw [flat_app]; simp [flat]
theorem own_dn {B : Nat} {a w : World} (h : Own B a w) (o : Nat) (u : Value) {k : Nat} (hk : a.heap.size ≤ k) : Own B a (w.setCell ⟨k, o, none⟩ u) :=
  ⟨h.os, h.tape, h.output, by simpa [World.setCell] using h.size, fun i hi hn => (Below.heap_setCell _ _ _ _ (by show i ≠ k; omega)).trans (h.block i hi hn)⟩
attribute [local irreducible] World.cell?
end Go.Proofs.YtckfklpgnneodaaGreat
namespace Go.Proofs.YtckfklpgnneodaaGreat
open Go.RowKit
theorem infoInt : (Tryz.prog.info? 3).map (fun i => (i.zero, i.size, i.bytes)) = some (some (.int .i64 0), 1, 8) := by kernel_rfl
/-- The first n integers. -/
def upL (n : Nat) : List Int := (List.range n).map fun (i : Nat) => (i : Int)
theorem upL_len (n : Nat) : (upL n).length = n := by simp [upL]
theorem upL_snoc (n : Nat) : upL (n + 1) = upL n ++ [(n : Int)] := by unfold upL; rw [List.range_succ, List.map_append]; rfl
theorem upL_mem {n : Nat} {x : Int} (h : x ∈ upL n) : 0 ≤ x ∧ x < n := by
  unfold upL at h
  obtain ⟨i, hi, rfl⟩ := List.mem_map.1 h
  have := List.mem_range.1 hi
  omega
theorem one_int (i : Int) : ∀ u ∈ [Value.int .i64 i], u.oneCell' = true := intE.one i
attribute [local irreducible] World.cell?
set_option maxRecDepth 100000 in
set_option maxHeartbeats 1600000 in
theorem sidP_yes (n : Nat) (w : World) (h1 : 1 ≤ n) (h4 : n ≤ 4) :
    Calls Tryz.prog 110 #[.int .i64 n] w fun e w' => ∃ v, e = .returned v ∧ intE.Sl w' w.heap.size v (upL n) ∧ Below w.heap.size w w' := by
  obtain ⟨i0, hi, hz0, hz1, hz2⟩ := info_parts infoInt
  have H1 := Lib.hid (fun w => lin_any n 1 4 true w (by simp; omega))
  go_enter Tryz.func110, Tryz.ntmps110
  go_wp2_with fail
  go_loopg [3, 4] n (fun k out i wr => ∃ j : Nat, k = n - j ∧ j ≤ n ∧ i = .int .i64 j ∧ Hid (wr.ownsRow w.heap.size 3 1 out j (intE.flat (upL j))) ∧ Hid (Below w.heap.size w wr))
  case atStart => exact ⟨0, rfl, Nat.zero_le _, rfl, Lib.hid (Enc.own_nil (E := intE) rfl), Lib.hid (by go_grown)⟩
  case round =>
    obtain ⟨j, rfl, hj, rfl, Hown, Hb⟩ := hrel
    have hs := Hb.out.size
    by_cases hlt : j < n
    · have hd : decide ((j : Int) < n) = true := decide_eq_true (by omega)
      have Hstep := Lib.hid (show intE.flat (upL j) ++ [.int .i64 (j : Int)] = intE.flat (upL (j + 1)) by rw [upL_snoc, intE.flat_app]; rfl)
      have Hnew := Lib.hid (Enc.new_row (E := intE) wr (j : Int) #[.int .i64 (j : Int)] rfl)
      go_wp2_with fail
      refine (H1.out _).mono ?_
      rintro e w2 ⟨rfl, rfl⟩
      go_wp2_with (first
        | (at_builtin; refine wpList_append_own _ rfl _ _ 61 rfl w.heap.size 3 i0 (.int .i64 0) 1 8 Tryz.underlying61 hi hz0 hz1 hz2 rfl (by decide) _ _ _ rfl (Hown.out.alloc _) ⟨wr.heap.size, 0, none⟩ 1 1 [.int .i64 (j : Int)] rfl rfl Hnew.out (one_int _) ?d3 ?d4 ?d5 ?_))
      case d3 => unfold maxLen; omega
      case d4 => omega
      case d5 => first | omega | (simp; omega)
      intro v' w4 hown' hgrow _
      have HB4 := Lib.hid ((Hb.out.alloc hs (.cells #[.int .i64 (j : Int)] 3)).grown hgrow (by simp; omega) (fun q hq => by have := Hown.out.lt q hq; omega))
      rw [Hstep.out] at hown'
      have Hown4 := Lib.hid hown'
      clear hown' hgrow
      go_wp2_with fail
      go_roundg (n - (j + 1))
      case measure => omega
      case rel => exact ⟨j + 1, rfl, by omega, by go_num, Hown4, HB4⟩
    · obtain rfl : j = n := by omega
      have hd : decide ((j : Int) < j) = false := by simp
      have hown := Hown.out
      rw [show j = (upL j).length from (upL_len j).symm, upL_len j] at hown
      have Hout := Lib.hid (Enc.Sl.of_own (E := intE) (l := upL j) (by rw [upL_len]; exact hown))
      clear hown
      go_wp2_with fail
      refine (H1.out _).mono ?_
      rintro e w2 ⟨rfl, rfl⟩
      go_wp2_with fail
      go_ret
      exact ⟨_, rfl, Hout.out, Hb.out⟩
set_option maxRecDepth 100000 in
set_option maxHeartbeats 3200000 in
theorem perm_any (B n : Nat) (w : World) (hcur : CurAt w B) (hB : B < w.heap.size) (h1 : 1 ≤ n) (h4 : n ≤ 4) :
    Calls Tryz.prog 83 #[.pointer (some ⟨B, 0, none⟩), .int .i64 n] w fun e w' => (∃ v l, e = .returned v ∧ List.length l = n ∧ (∀ x ∈ l, 0 ≤ x ∧ x < (n : Int)) ∧ intE.Sl w' w.heap.size v l) ∧ CurAt w' B ∧ Own B w w' := by
  go_enter Tryz.func83, Tryz.ntmps83
  go_wp2_with fail
  refine (sidP_yes n _ h1 h4).mono ?_
  rintro e w1 ⟨v, rfl, hd, hb1⟩
  have Hc1 := Lib.hid (hcur.below hb1 hB)
  have Ho1 := Lib.hid (show Own B w w1 from own_of_below hb1)
  have hs1 := hb1.size
  obtain ⟨a, cap, rfl, hcap, hr⟩ := hd
  obtain ⟨g, rfl, hg, hrow⟩ := hr (by rw [upL_len]; omega)
  have Hrow := Lib.hid hrow
  clear hb1 hr hrow hcur
  rw [upL_len] at hcap ⊢
  go_wp2_with fail
  go_loopg [6] (n - 1) (fun n' i wr => ∃ (k : Nat) (l : List Int), k = n' ∧ i = .int .i64 (k : Int) ∧ k < n ∧ l.length = n ∧ Hid (∀ x ∈ l, 0 ≤ x ∧ x < (n : Int)) ∧ Hid (intE.Row wr g l) ∧ Hid (CurAt wr B) ∧ Hid (Own B w wr) ∧ g < wr.heap.size)
  case atStart => exact ⟨n - 1, upL n, rfl, by congr 1; omega, by omega, upL_len n, Lib.hid (fun x hx => upL_mem hx), Hrow, Hc1, Ho1, Hrow.out.lt⟩
  case round =>
    obtain ⟨k, l, rfl, rfl, hk, hl, Hbd, Hr, Hc, Ho, hgl⟩ := hrel
    by_cases h0 : k = 0
    · subst h0
      go_wp2_with fail
      go_ret
      exact ⟨⟨_, l, rfl, hl, Hbd.out, Enc.Sl.mk hl.symm hcap (by omega) Hr.out⟩, Hc.out, Ho.out⟩
    · obtain ⟨m, rfl⟩ : ∃ m, k = m + 1 := ⟨k - 1, by omega⟩
      have hgB : g ≠ B := by omega
      have hgw : w.heap.size ≤ g := by omega
      go_wp2_with fail
      refine (below_any B ((m : Int) + 1 + 1) _ Hc.out (by omega) (by omega)).mono ?_
      rintro e w2 ⟨⟨x, x0, x1, rfl⟩, hc2, ho2⟩
      obtain ⟨q, rfl⟩ : ∃ q : Nat, x = q := ⟨x.toNat, by omega⟩
      have hq : q < n := by omega
      have hr2 := Hr.out.own ho2 hgB
      have Hr2 := Lib.hid hr2
      have Hc2 := Lib.hid hc2
      have Ho2 := Lib.hid (own_trans Ho.out ho2)
      have hs2 := ho2.size
      obtain ⟨a, ha⟩ : ∃ a, l[m + 1]? = some a := ⟨l[m + 1], List.getElem?_eq_getElem (by omega)⟩
      obtain ⟨b, hb⟩ : ∃ b, l[q]? = some b := ⟨l[q], List.getElem?_eq_getElem (by omega)⟩
      have ca := IRow.cell hr2 ha
      have cb := IRow.cell hr2 hb
      have f1 := fun o => hr2.free o
      have Hr3 := Lib.hid (IRow.put (IRow.put hr2 (j := m + 1) (by omega) b) (j := q) (by simp; omega) a)
      have Hc3 := Lib.hid (hc2.own (C := g) (own_set (own_set (own_refl g w2) (m + 1) (.int .i64 b)) q (.int .i64 a)) (by omega))
      have Ho3 := Lib.hid (own_dn (own_dn Ho2.out (m + 1) (.int .i64 b) hgw) q (.int .i64 a) hgw)
      have hba := Hbd.out a (List.mem_of_getElem? ha)
      have hbb := Hbd.out b (List.mem_of_getElem? hb)
      have Hbd3 := Lib.hid (show ∀ x ∈ (l.set (m + 1) b).set q a, 0 ≤ x ∧ x < (n : Int) from fun x hx => by
        rcases List.mem_or_eq_of_mem_set hx with h | rfl
        · rcases List.mem_or_eq_of_mem_set h with h | rfl
          · exact Hbd.out x h
          · exact hbb
        · exact hba)
      have Hab := Lib.hid (fun (e : q = m + 1) => show b = a by subst e; rw [ha] at hb; injection hb with hb; exact hb.symm)
      clear hr2 hc2 ho2 Hr Hc Ho ha hb hba hbb Hbd Hr2 Hc2 Ho2
      by_cases hqm : q = m + 1
      · obtain rfl := Hab.out hqm
        subst hqm
        go_wp2_with fail
        go_roundg m
        case measure => omega
        case rel => exact ⟨m, _, rfl, by go_num, by omega, by simpa using hl, Hbd3, Hr3, Hc3, Ho3, by simp [World.setCell]; omega⟩
      · go_wp2_with fail
        go_roundg m
        case measure => omega
        case rel => exact ⟨m, _, rfl, by go_num, by omega, by simpa using hl, Hbd3, Hr3, Hc3, Ho3, by simp [World.setCell]; omega⟩
end Go.Proofs.YtckfklpgnneodaaGreat
namespace Go.Proofs.YtckfklpgnneodaaGreat
open Go.RowKit
/-- A place and a factor, six cells. -/
def sentE : Enc (Nat × Dw) := ⟨fun p => .int .i64 (p.1 : Int) :: fl p.2, 6, 113, fun _ => rfl, fun x u h => by
  rw [List.mem_cons] at h
  rcases h with rfl | h
  · rfl
  · simp [fl] at h; rcases h with rfl | rfl | rfl | rfl | rfl <;> rfl⟩
/-- A bit turned over. -/
def flipN (i q : Nat) : Nat := i ^^^ (1 <<< q)
theorem flip_all : ∀ i : Fin 16, ∀ q : Fin 4, bits .xor .i64 ((i.val : Nat) : Int) (wrap64 (2 ^ q.val)) = ((flipN i.val q.val : Nat) : Int) := by decide +kernel
theorem flip_bits {i q : Nat} (hi : i < 16) (hq : q < 4) : bits .xor .i64 (i : Int) (wrap64 (2 ^ q)) = ((flipN i q : Nat) : Int) := flip_all ⟨i, hi⟩ ⟨q, hq⟩
theorem new_sent (w : World) (i : Nat) (x : Dw) : sentE.Sl (w.alloc (.cells #[.int .i64 (i : Int), .int .i64 x.n.a, .int .i64 x.n.b, .int .i64 x.n.c, .int .i64 x.n.d, .int .i64 x.e] 113)) w.heap.size (.slice (some ⟨w.heap.size, 0, none⟩) 1 1) [(i, x)] :=
  Enc.Sl.mk rfl (Nat.le_refl _) (Nat.le_refl _) ⟨_, heap_alloc_new w _, rfl⟩
attribute [local irreducible] World.cell?
set_option maxRecDepth 100000 in
set_option maxHeartbeats 1600000 in
theorem sflip (i q : Nat) (t : Bool) (w : World) (hi : i < 16) (hq : q < 4) :
    Calls Tryz.prog 90 #[.int .i64 i, .int .i64 q, .bool t] w fun e w' => ∃ v, e = .returned v ∧ sentE.Sl w' w.heap.size v [(if t then flipN i q else i, dPh 0)] ∧ Below w.heap.size w w' := by
  have H := Lib.hid (fun W => sphase 0 W)
  generalize dPh 0 = P at *
  cases t with
  | true =>
    have hf := flip_bits hi hq
    generalize flipN i q = f at *
    go_enter Tryz.func90, Tryz.ntmps90
    go_wp2_with fail
    refine (H.out _).mono ?_
    rintro e w1 ⟨rfl, hb1⟩
    have Hs := Lib.hid ((new_sent w1 f P).mono hb1.size)
    have Hb1 := Lib.hid hb1
    have hs1 := hb1.size
    clear hb1
    go_wp2_with fail
    go_ret
    exact ⟨_, rfl, Hs.out, by have := Hb1.out; go_grown⟩
  | false =>
    go_enter Tryz.func90, Tryz.ntmps90
    go_wp2_with fail
    refine (H.out _).mono ?_
    rintro e w1 ⟨rfl, hb1⟩
    have Hs := Lib.hid ((new_sent w1 i P).mono hb1.size)
    have Hb1 := Lib.hid hb1
    have hs1 := hb1.size
    clear hb1
    go_wp2_with fail
    go_ret
    exact ⟨_, rfl, Hs.out, by have := Hb1.out; go_grown⟩
set_option maxRecDepth 100000 in
set_option maxHeartbeats 1600000 in
theorem sphas (i : Nat) (t : Bool) (k : Int) (w : World) (_ : i < 16) :
    Calls Tryz.prog 92 #[.int .i64 i, .bool t, .int .i64 k] w fun e w' => ∃ v, e = .returned v ∧ sentE.Sl w' w.heap.size v [(i, if t then dPh k else dPh 0)] ∧ Below w.heap.size w w' := by
  have H := Lib.hid (fun W => sphase k W)
  have H0 := Lib.hid (fun W => sphase 0 W)
  generalize dPh k = P at *
  generalize dPh 0 = O at *
  cases t with
  | true =>
    go_enter Tryz.func92, Tryz.ntmps92
    go_wp2_with fail
    refine (H.out _).mono ?_
    rintro e w1 ⟨rfl, hb1⟩
    have Hs := Lib.hid ((new_sent w1 i P).mono hb1.size)
    have Hb1 := Lib.hid hb1
    have hs1 := hb1.size
    clear hb1
    go_wp2_with fail
    go_ret
    exact ⟨_, rfl, Hs.out, by have := Hb1.out; go_grown⟩
  | false =>
    go_enter Tryz.func92, Tryz.ntmps92
    go_wp2_with fail
    refine (H0.out _).mono ?_
    rintro e w1 ⟨rfl, hb1⟩
    have Hs := Lib.hid ((new_sent w1 i O).mono hb1.size)
    have Hb1 := Lib.hid hb1
    have hs1 := hb1.size
    clear hb1
    go_wp2_with fail
    go_ret
    exact ⟨_, rfl, Hs.out, by have := Hb1.out; go_grown⟩
end Go.Proofs.YtckfklpgnneodaaGreat
namespace Go.Proofs.YtckfklpgnneodaaGreat
open Go.RowKit
theorem below_dn {B : Nat} {a w : World} (h : Below B a w) (n : Nat) : Below B a (w.drewN n) := h.trans ⟨rfl, rfl, rfl, Nat.le_refl _, fun _ _ => rfl⟩
theorem eq_take {a b : List Dw} (_ : a.length = b.length) {j : Nat} {x y : Dw} (hx : a[j]? = some x) (hy : b[j]? = some y) (h : a.take j = b.take j) (hxy : x = y) : a.take (j + 1) = b.take (j + 1) := by
  rw [List.take_add_one, List.take_add_one, h, hx, hy, hxy]
attribute [local irreducible] World.cell?
set_option maxRecDepth 100000 in
set_option maxHeartbeats 1600000 in
theorem sequalSt (B C : Nat) (v u : Value) (a b : List Dw) (w : World) (hv : DSl w B v a) (hu : DSl w C u b) (hm : a.length ≤ 1048576) (_ : b.length ≤ 1048576) :
    Calls Tryz.prog 26 #[v, u] w fun e w' => e = .returned (.bool (decide (a = b))) ∧ Below w.heap.size w w' := by
  obtain ⟨p, cap, rfl, hcap, hr⟩ := hv
  obtain ⟨p', cap', rfl, hcap', hr'⟩ := hu
  have Hr := Lib.hid hr
  have Hr' := Lib.hid hr'
  clear hr hr'
  by_cases hl : a.length = b.length
  · have hd : ((a.length : Int) == b.length) = true := by simp; omega
    have hd2 : ((a.length : Int) != b.length) = false := by simp; omega
    obtain ⟨T, hT⟩ : ∃ T, T = decide (a = b) := ⟨_, rfl⟩
    rw [← hT]
    have HT := Lib.hid hT
    clear hT
    go_enter Tryz.func26, Tryz.ntmps26
    go_wp2_with fail
    go_loopw [5] (fun i wr => ∃ j : Nat, j ≤ a.length ∧ i = .int .i64 j ∧ Hid (a.take j = b.take j) ∧ Hid (Below w.heap.size w wr)) (fun i _ => a.length - (intOf i).toNat)
    case atStart => exact ⟨0, Nat.zero_le _, rfl, Lib.hid rfl, Below.refl _ _⟩
    case round =>
      obtain ⟨j, hj, rfl, Heq, Hb⟩ := hrel
      by_cases hlt : j < a.length
      · obtain ⟨g, rfl, _, hrow⟩ := Hr.out (by omega)
        obtain ⟨g', rfl, _, hrow'⟩ := Hr'.out (by omega)
        obtain ⟨x, hx⟩ : ∃ x, a[j]? = some x := ⟨a[j], List.getElem?_eq_getElem hlt⟩
        obtain ⟨y, hy⟩ : ∃ y, b[j]? = some y := ⟨b[j], List.getElem?_eq_getElem (by omega)⟩
        have r1 := hrow.below Hb.out hrow.lt
        have r2 := hrow'.below Hb.out hrow'.lt
        obtain ⟨c0, c1, c2, c3, c4⟩ := r1.cells hx
        obtain ⟨d0, d1, d2, d3, d4⟩ := r2.cells hy
        have hne := neD x y
        have Hx := Lib.hid hx
        have Hy := Lib.hid hy
        clear hx hy r1 r2 hrow hrow'
        go_upto_region 6 with fail
        by_cases hxy : x = y
        · rw [eqDB_iff.2 hxy] at hne
          have Hxy := Lib.hid hxy
          clear hxy
          go_quiet (fail)
          go_wp2_with fail
          go_roundw
          case rel => exact ⟨j + 1, by omega, by go_num, Lib.hid (eq_take hl Hx.out Hy.out Heq.out Hxy.out), below_dn Hb.out _⟩
          case measure => simp [intOf]; omega
        · rw [eqDB_no hxy] at hne
          have hF : a ≠ b := fun h => hxy (by have h1 := Hx.out; rw [h, Hy.out] at h1; injection h1 with h1; exact h1.symm)
          obtain rfl : T = false := HT.out.trans (decide_eq_false hF)
          clear hF hxy
          go_quiet (fail)
          go_wp2_with fail
          go_ret
          exact ⟨rfl, below_dn Hb.out _⟩
      · obtain rfl : j = a.length := by omega
        have hE := Heq.out
        rw [List.take_length, List.take_of_length_le (by omega)] at hE
        obtain rfl : T = true := HT.out.trans (decide_eq_true hE)
        go_wp2_with fail
        go_ret
        exact ⟨rfl, Hb.out⟩
  · have hd : ((a.length : Int) == b.length) = false := by simp; omega
    have hd2 : ((a.length : Int) != b.length) = true := by simp; omega
    rw [decide_eq_false (fun h => hl (by rw [h]))]
    go_enter Tryz.func26, Tryz.ntmps26
    go_wp2_with fail
    go_ret
    exact ⟨rfl, Below.refl _ _⟩
end Go.Proofs.YtckfklpgnneodaaGreat
namespace Go.Proofs.YtckfklpgnneodaaGreat
open Go.RowKit
theorem ok_eb {x : Dw} (h : x.ok) : -9223372036854775808 ≤ x.e ∧ x.e ≤ 9223372036854775807 := by have := h.2; omega
attribute [local irreducible] World.cell?
end Go.Proofs.YtckfklpgnneodaaGreat
namespace Go.Proofs.YtckfklpgnneodaaGreat
open Go.RowKit
theorem mul_eb (x y : Dw) : -9223372036854775808 ≤ (dMulV x y).e ∧ (dMulV x y).e ≤ 9223372036854775807 := by
  cases h : dMulB x y
  · rw [show dMulV x y = .zero from if_neg (by rw [h]; decide)]; exact ⟨by decide, by decide⟩
  · exact ok_eb (dMulV_ok h)
theorem zero_ok : Dw.zero.ok := by decide
attribute [local irreducible] World.cell?
end Go.Proofs.YtckfklpgnneodaaGreat
namespace Go.Proofs.YtckfklpgnneodaaGreat
open Go.RowKit
/-- IdentityMatrix. -/
def idM (n : Int) : List (List Dw) := if 1 ≤ n ∧ n ≤ 4 then (List.range (2 ^ n.toNat)).map fun (i : Nat) => basisL n (i : Int) else []
/-- Columns. -/
def col (M : List (List Dw)) (k : Nat) : List Dw := M.map fun r => r.getD k .zero
def colsM (L : List (List Dw)) : List (List Dw) := (List.range L.length).map fun i => col L i
theorem col_len (M : List (List Dw)) (k : Nat) : (col M k).length = M.length := by rw [col, List.length_map]
theorem colsM_len (L : List (List Dw)) : (colsM L).length = L.length := by rw [colsM, List.length_map, List.length_range]
end Go.Proofs.YtckfklpgnneodaaGreat
namespace Go.Proofs.YtckfklpgnneodaaGreat
end Go.Proofs.YtckfklpgnneodaaGreat
namespace Go.Proofs.YtckfklpgnneodaaGreat
end Go.Proofs.YtckfklpgnneodaaGreat
namespace Go.Proofs.YtckfklpgnneodaaGreat
open Go.RowKit
theorem DsIn.mono {w : World} {B C : Nat} {a0 : Option Addr} {l : List Dw} (h : DsIn w B a0 l) (hC : B ≤ C) : DsIn w C a0 l :=
  ⟨h.1, h.2.1, fun h0 => by obtain ⟨b, off, e, hlt, hc⟩ := h.2.2 h0; exact ⟨b, off, e, by omega, hc⟩⟩
theorem DsIn.eb {w : World} {B : Nat} {a0 : Option Addr} {l : List Dw} (h : DsIn w B a0 l) : Eb l := h.2.1
end Go.Proofs.YtckfklpgnneodaaGreat
namespace Go.Proofs.YtckfklpgnneodaaGreat
end Go.Proofs.YtckfklpgnneodaaGreat
namespace Go.Proofs.YtckfklpgnneodaaGreat
def EB (x : Dw) : Prop := -9223372036854775808 ≤ x.e ∧ x.e ≤ 9223372036854775807
theorem eb_ok {x : Dw} (h : x.ok) : EB x := by have := h.2; unfold EB; omega
theorem eb_zero : EB .zero := ⟨(by decide : (-9223372036854775808 : Int) ≤ 0), (by decide : (0 : Int) ≤ 9223372036854775807)⟩
theorem eb_mul (x y : Dw) : EB (dMulV x y) := by
  cases h : dMulB x y
  · rw [dMulV_no h]; exact eb_zero
  · exact eb_ok (dMulV_ok h)
end Go.Proofs.YtckfklpgnneodaaGreat
namespace Go.Proofs.YtckfklpgnneodaaGreat
open Go.RowKit
attribute [local irreducible] World.cell?
end Go.Proofs.YtckfklpgnneodaaGreat
namespace Go.Proofs.YtckfklpgnneodaaGreat
open Go.RowKit
attribute [local irreducible] World.cell?
end Go.Proofs.YtckfklpgnneodaaGreat
