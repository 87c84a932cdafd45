/- B13: several of our texts in one: DsF DsC DsD PeD DsE DsA DsI MtR DsN MtL. -/
import Derived.Test.YtbnkanlebjpkfaaGreatDoorB15
import Derived.Test.YtbnkanlebjpkfaaGreatDoorDwS
import Derived.Test.YtbnkanlebjpkfaaGreatDoorB09
import Derived.Test.YtbnkanlebjpkfaaGreatDoorB04
import Derived.Test.YtbnkanlebjpkfaaGreatDoorB02
namespace Go.Proofs.YtbnkanlebjpkfaaGreatDoor
open Go.RowKit
theorem row_below {w w' : World} {base : Nat} {e : TypeId} {size : Nat} {v : Value} {n : Nat} {xs : List Value} (h : w.ownsRow base e size v n xs) (hb : Below w.heap.size w w') : w'.ownsRow base e size v n xs := by
  obtain ⟨h1, h2⟩ := h
  refine ⟨h1, ?_⟩
  rcases h2 with h2 | ⟨g, cap, cur, a, b, c, d⟩
  · exact .inl h2
  · exact .inr ⟨g, cap, cur, a, b, by rw [hb.block g (lt_of_block c)]; exact c, d⟩
/-- An element of a row and a box. -/
def FB (w : World) (g o : Nat) (x : Dw) (b : Nat) (y : Dw) (w' : World) : Prop := w'.cell? ⟨g, o, none⟩ = some (.int .i64 x.n.a) ∧ w'.cell? ⟨g, o + 1, none⟩ = some (.int .i64 x.n.b) ∧ w'.cell? ⟨g, o + 2, none⟩ = some (.int .i64 x.n.c) ∧ w'.cell? ⟨g, o + 3, none⟩ = some (.int .i64 x.n.d) ∧ w'.cell? ⟨g, o + 4, none⟩ = some (.int .i64 x.e) ∧ w'.cell? ⟨b, 0, none⟩ = some (.int .i64 y.n.a) ∧ w'.cell? ⟨b, 1, none⟩ = some (.int .i64 y.n.b) ∧ w'.cell? ⟨b, 2, none⟩ = some (.int .i64 y.n.c) ∧ w'.cell? ⟨b, 3, none⟩ = some (.int .i64 y.n.d) ∧ w'.cell? ⟨b, 4, none⟩ = some (.int .i64 y.e) ∧ g < w'.heap.size ∧ b < w'.heap.size ∧ Below w.heap.size w w'
theorem FB.drew {w w' : World} {g o b : Nat} {x y : Dw} (h : FB w g o x b y w') : FB w g o x b y w'.drew :=
  let ⟨a0, a1, a2, a3, a4, b0, b1, b2, b3, b4, z, z', l⟩ := h; ⟨a0, a1, a2, a3, a4, b0, b1, b2, b3, b4, z, z', l.drew⟩
theorem FB.below {w w1 w2 : World} {g o b : Nat} {x y : Dw} (h : FB w g o x b y w1) (hb : Below w1.heap.size w1 w2) : FB w g o x b y w2 :=
  let ⟨a0, a1, a2, a3, a4, b0, b1, b2, b3, b4, z, z', l⟩ := h
  ⟨cell_below a0 hb z, cell_below a1 hb z, cell_below a2 hb z, cell_below a3 hb z, cell_below a4 hb z, cell_below b0 hb z', cell_below b1 hb z', cell_below b2 hb z', cell_below b3 hb z', cell_below b4 hb z', Nat.lt_of_lt_of_le z hb.size, Nat.lt_of_lt_of_le z' hb.size, below_up l hb l.size⟩
theorem FB.alloc {w w1 : World} {g o b : Nat} {x y : Dw} (h : FB w g o x b y w1) (p : Obj) : FB w g o x b y (w1.alloc p) := h.below ((Below.refl _ _).alloc (Nat.le_refl _) p)
theorem FB.low {w w' : World} {g o b : Nat} {x y : Dw} (h : FB w g o x b y w') : Below w.heap.size w w' := let ⟨_, _, _, _, _, _, _, _, _, _, _, _, l⟩ := h; l
theorem E2.alloc {w w1 : World} {g g' o : Nat} {x y : Dw} (h : E2 w g g' o x y w1) (p : Obj) : E2 w g g' o x y (w1.alloc p) := h.below ((Below.refl _ _).alloc (Nat.le_refl _) p)
end Go.Proofs.YtbnkanlebjpkfaaGreatDoor
namespace Go.Proofs.YtbnkanlebjpkfaaGreatDoor
open Go.RowKit
theorem fl_plain (y : Dw) : ∀ u ∈ fl y, u.oneCell' = true := by
  intro u hu
  simp [fl] at hu
  rcases hu with rfl | rfl | rfl | rfl | rfl <;> rfl
attribute [local irreducible] World.cell?
end Go.Proofs.YtbnkanlebjpkfaaGreatDoor
namespace Go.Proofs.YtbnkanlebjpkfaaGreatDoor
open Go.RowKit
theorem row_own {w w' : World} {base B : Nat} {e : TypeId} {size : Nat} {v : Value} {n : Nat} {xs : List Value} (h : w.ownsRow base e size v n xs) (ho : Own B w w') (hB : B < base) : w'.ownsRow base e size v n xs := by
  obtain ⟨h1, h2⟩ := h
  refine ⟨h1, ?_⟩
  rcases h2 with h2 | ⟨g, cap, cur, a, b, c, d⟩
  · exact .inl h2
  · exact .inr ⟨g, cap, cur, a, b, by rw [ho.block g (lt_of_block c) (by intro e; injection e with e; omega)]; exact c, d⟩
/-- The exponents of a row are machine integers. -/
def Eb (l : List Dw) : Prop := ∀ x ∈ l, -9223372036854775808 ≤ x.e ∧ x.e ≤ 9223372036854775807
theorem Eb.snoc {l : List Dw} {x : Dw} (h : Eb l) (hx : -9223372036854775808 ≤ x.e ∧ x.e ≤ 9223372036854775807) : Eb (l ++ [x]) := by
  intro y hy
  rcases List.mem_append.1 hy with hy | hy
  · exact h y hy
  · obtain rfl : y = x := by simpa using hy
    exact hx
theorem Eb.set {l : List Dw} {x : Dw} (h : Eb l) (j : Nat) (hx : -9223372036854775808 ≤ x.e ∧ x.e ≤ 9223372036854775807) : Eb (l.set j x) := by
  intro y hy
  rcases List.mem_or_eq_of_mem_set hy with hy | rfl
  · exact h y hy
  · exact hx
theorem Eb.take {l : List Dw} (h : Eb l) (j : Nat) : Eb (l.take j) := fun y hy => h y (List.mem_of_mem_take hy)
theorem flat_snoc (l : List Dw) (y : Dw) : flat l ++ fl y = flat (l ++ [y]) := by rw [flat_app]; simp [flat]
theorem own_dn {B : Nat} {a w : World} (h : Own B a w) (o : Nat) (u : Value) {k : Nat} (hk : a.heap.size ≤ k) : Own B a (w.setCell ⟨k, o, none⟩ u) :=
  ⟨h.os, h.tape, h.output, by simpa [World.setCell] using h.size, fun i hi hn => (Below.heap_setCell _ _ _ _ (by show i ≠ k; omega)).trans (h.block i hi hn)⟩
attribute [local irreducible] World.cell?
end Go.Proofs.YtbnkanlebjpkfaaGreatDoor
namespace Go.Proofs.YtbnkanlebjpkfaaGreatDoor
open Go.RowKit
theorem infoInt : (Tryz.prog.info? 3).map (fun i => (i.zero, i.size, i.bytes)) = some (some (.int .i64 0), 1, 8) := by kernel_rfl
/-- The first n integers. -/
def upL (n : Nat) : List Int := (List.range n).map fun (i : Nat) => (i : Int)
theorem upL_len (n : Nat) : (upL n).length = n := by simp [upL]
theorem upL_snoc (n : Nat) : upL (n + 1) = upL n ++ [(n : Int)] := by unfold upL; rw [List.range_succ, List.map_append]; rfl
theorem upL_mem {n : Nat} {x : Int} (h : x ∈ upL n) : 0 ≤ x ∧ x < n := by
  unfold upL at h
  obtain ⟨i, hi, rfl⟩ := List.mem_map.1 h
  have := List.mem_range.1 hi
  omega
theorem one_int (i : Int) : ∀ u ∈ [Value.int .i64 i], u.oneCell' = true := intE.one i
attribute [local irreducible] World.cell?
set_option maxRecDepth 100000 in
set_option maxHeartbeats 1600000 in
theorem sidP_yes (n : Nat) (w : World) (h1 : 1 ≤ n) (h4 : n ≤ 4) :
    Calls Tryz.prog 96 #[.int .i64 n] w fun e w' => ∃ v, e = .returned v ∧ intE.Sl w' w.heap.size v (upL n) ∧ Below w.heap.size w w' := by
  obtain ⟨i0, hi, hz0, hz1, hz2⟩ := info_parts infoInt
  have H1 := Lib.hid (fun w => lin_any n 1 4 true w (by simp; omega))
  go_enter Tryz.func96, Tryz.ntmps96
  go_wp2_with fail
  go_loopg [3, 4] n (fun k out i wr => ∃ j : Nat, k = n - j ∧ j ≤ n ∧ i = .int .i64 j ∧ Hid (wr.ownsRow w.heap.size 3 1 out j (intE.flat (upL j))) ∧ Hid (Below w.heap.size w wr))
  case atStart => exact ⟨0, rfl, Nat.zero_le _, rfl, Lib.hid (Enc.own_nil (E := intE) rfl), Lib.hid (by go_grown)⟩
  case round =>
    obtain ⟨j, rfl, hj, rfl, Hown, Hb⟩ := hrel
    have hs := Hb.out.size
    by_cases hlt : j < n
    · have hd : decide ((j : Int) < n) = true := decide_eq_true (by omega)
      have Hstep := Lib.hid (show intE.flat (upL j) ++ [.int .i64 (j : Int)] = intE.flat (upL (j + 1)) by rw [upL_snoc, intE.flat_app]; rfl)
      have Hnew := Lib.hid (Enc.new_row (E := intE) wr (j : Int) #[.int .i64 (j : Int)] rfl)
      go_wp2_with fail
      refine (H1.out _).mono ?_
      rintro e w2 ⟨rfl, rfl⟩
      go_wp2_with (first
        | (at_builtin; refine wpList_append_own _ rfl _ _ 61 rfl w.heap.size 3 i0 (.int .i64 0) 1 8 Tryz.underlying61 hi hz0 hz1 hz2 rfl (by decide) _ _ _ rfl (Hown.out.alloc _) ⟨wr.heap.size, 0, none⟩ 1 1 [.int .i64 (j : Int)] rfl rfl Hnew.out (one_int _) ?d3 ?d4 ?d5 ?_))
      case d3 => unfold maxLen; omega
      case d4 => omega
      case d5 => first | omega | (simp; omega)
      intro v' w4 hown' hgrow _
      have HB4 := Lib.hid ((Hb.out.alloc hs (.cells #[.int .i64 (j : Int)] 3)).grown hgrow (by simp; omega) (fun q hq => by have := Hown.out.lt q hq; omega))
      rw [Hstep.out] at hown'
      have Hown4 := Lib.hid hown'
      clear hown' hgrow
      go_wp2_with fail
      go_roundg (n - (j + 1))
      case measure => omega
      case rel => exact ⟨j + 1, rfl, by omega, by go_num, Hown4, HB4⟩
    · obtain rfl : j = n := by omega
      have hd : decide ((j : Int) < j) = false := by simp
      have hown := Hown.out
      rw [show j = (upL j).length from (upL_len j).symm, upL_len j] at hown
      have Hout := Lib.hid (Enc.Sl.of_own (E := intE) (l := upL j) (by rw [upL_len]; exact hown))
      clear hown
      go_wp2_with fail
      refine (H1.out _).mono ?_
      rintro e w2 ⟨rfl, rfl⟩
      go_wp2_with fail
      go_ret
      exact ⟨_, rfl, Hout.out, Hb.out⟩
set_option maxRecDepth 100000 in
set_option maxHeartbeats 3200000 in
theorem perm_any (B n : Nat) (w : World) (hcur : CurAt w B) (hB : B < w.heap.size) (h1 : 1 ≤ n) (h4 : n ≤ 4) :
    Calls Tryz.prog 82 #[.pointer (some ⟨B, 0, none⟩), .int .i64 n] w fun e w' => (∃ v l, e = .returned v ∧ List.length l = n ∧ (∀ x ∈ l, 0 ≤ x ∧ x < (n : Int)) ∧ intE.Sl w' w.heap.size v l) ∧ CurAt w' B ∧ Own B w w' := by
  go_enter Tryz.func82, Tryz.ntmps82
  go_wp2_with fail
  refine (sidP_yes n _ h1 h4).mono ?_
  rintro e w1 ⟨v, rfl, hd, hb1⟩
  have Hc1 := Lib.hid (hcur.below hb1 hB)
  have Ho1 := Lib.hid (show Own B w w1 from own_of_below hb1)
  have hs1 := hb1.size
  obtain ⟨a, cap, rfl, hcap, hr⟩ := hd
  obtain ⟨g, rfl, hg, hrow⟩ := hr (by rw [upL_len]; omega)
  have Hrow := Lib.hid hrow
  clear hb1 hr hrow hcur
  rw [upL_len] at hcap ⊢
  go_wp2_with fail
  go_loopg [6] (n - 1) (fun n' i wr => ∃ (k : Nat) (l : List Int), k = n' ∧ i = .int .i64 (k : Int) ∧ k < n ∧ l.length = n ∧ Hid (∀ x ∈ l, 0 ≤ x ∧ x < (n : Int)) ∧ Hid (intE.Row wr g l) ∧ Hid (CurAt wr B) ∧ Hid (Own B w wr) ∧ g < wr.heap.size)
  case atStart => exact ⟨n - 1, upL n, rfl, by congr 1; omega, by omega, upL_len n, Lib.hid (fun x hx => upL_mem hx), Hrow, Hc1, Ho1, Hrow.out.lt⟩
  case round =>
    obtain ⟨k, l, rfl, rfl, hk, hl, Hbd, Hr, Hc, Ho, hgl⟩ := hrel
    by_cases h0 : k = 0
    · subst h0
      go_wp2_with fail
      go_ret
      exact ⟨⟨_, l, rfl, hl, Hbd.out, Enc.Sl.mk hl.symm hcap (by omega) Hr.out⟩, Hc.out, Ho.out⟩
    · obtain ⟨m, rfl⟩ : ∃ m, k = m + 1 := ⟨k - 1, by omega⟩
      have hgB : g ≠ B := by omega
      have hgw : w.heap.size ≤ g := by omega
      go_wp2_with fail
      refine (below_any B ((m : Int) + 1 + 1) _ Hc.out (by omega) (by omega)).mono ?_
      rintro e w2 ⟨⟨x, x0, x1, rfl⟩, hc2, ho2⟩
      obtain ⟨q, rfl⟩ : ∃ q : Nat, x = q := ⟨x.toNat, by omega⟩
      have hq : q < n := by omega
      have hr2 := Hr.out.own ho2 hgB
      have Hr2 := Lib.hid hr2
      have Hc2 := Lib.hid hc2
      have Ho2 := Lib.hid (own_trans Ho.out ho2)
      have hs2 := ho2.size
      obtain ⟨a, ha⟩ : ∃ a, l[m + 1]? = some a := ⟨l[m + 1], List.getElem?_eq_getElem (by omega)⟩
      obtain ⟨b, hb⟩ : ∃ b, l[q]? = some b := ⟨l[q], List.getElem?_eq_getElem (by omega)⟩
      have ca := IRow.cell hr2 ha
      have cb := IRow.cell hr2 hb
      have f1 := fun o => hr2.free o
      have Hr3 := Lib.hid (IRow.put (IRow.put hr2 (j := m + 1) (by omega) b) (j := q) (by simp; omega) a)
      have Hc3 := Lib.hid (hc2.own (C := g) (own_set (own_set (own_refl g w2) (m + 1) (.int .i64 b)) q (.int .i64 a)) (by omega))
      have Ho3 := Lib.hid (own_dn (own_dn Ho2.out (m + 1) (.int .i64 b) hgw) q (.int .i64 a) hgw)
      have hba := Hbd.out a (List.mem_of_getElem? ha)
      have hbb := Hbd.out b (List.mem_of_getElem? hb)
      have Hbd3 := Lib.hid (show ∀ x ∈ (l.set (m + 1) b).set q a, 0 ≤ x ∧ x < (n : Int) from fun x hx => by
        rcases List.mem_or_eq_of_mem_set hx with h | rfl
        · rcases List.mem_or_eq_of_mem_set h with h | rfl
          · exact Hbd.out x h
          · exact hbb
        · exact hba)
      have Hab := Lib.hid (fun (e : q = m + 1) => show b = a by subst e; rw [ha] at hb; injection hb with hb; exact hb.symm)
      clear hr2 hc2 ho2 Hr Hc Ho ha hb hba hbb Hbd Hr2 Hc2 Ho2
      by_cases hqm : q = m + 1
      · obtain rfl := Hab.out hqm
        subst hqm
        go_wp2_with fail
        go_roundg m
        case measure => omega
        case rel => exact ⟨m, _, rfl, by go_num, by omega, by simpa using hl, Hbd3, Hr3, Hc3, Ho3, by simp [World.setCell]; omega⟩
      · go_wp2_with fail
        go_roundg m
        case measure => omega
        case rel => exact ⟨m, _, rfl, by go_num, by omega, by simpa using hl, Hbd3, Hr3, Hc3, Ho3, by simp [World.setCell]; omega⟩
end Go.Proofs.YtbnkanlebjpkfaaGreatDoor
namespace Go.Proofs.YtbnkanlebjpkfaaGreatDoor
open Go.RowKit
theorem below_dn {B : Nat} {a w : World} (h : Below B a w) (n : Nat) : Below B a (w.drewN n) := h.trans ⟨rfl, rfl, rfl, Nat.le_refl _, fun _ _ => rfl⟩
attribute [local irreducible] World.cell?
end Go.Proofs.YtbnkanlebjpkfaaGreatDoor
namespace Go.Proofs.YtbnkanlebjpkfaaGreatDoor
open Go.RowKit
attribute [local irreducible] World.cell?
end Go.Proofs.YtbnkanlebjpkfaaGreatDoor
namespace Go.Proofs.YtbnkanlebjpkfaaGreatDoor
open Go.RowKit
attribute [local irreducible] World.cell?
end Go.Proofs.YtbnkanlebjpkfaaGreatDoor
namespace Go.Proofs.YtbnkanlebjpkfaaGreatDoor
open Go.RowKit
theorem Mid.trans {B C : Nat} {w w' w2 : World} (h : Mid B C w w') (k : Mid B C w' w2) : Mid B C w w2 :=
  ⟨h.1.trans k.1, fun b hb hl => (k.2 b hb (Nat.lt_of_lt_of_le hl h.1.size)).trans (h.2 b hb hl)⟩
end Go.Proofs.YtbnkanlebjpkfaaGreatDoor
namespace Go.Proofs.YtbnkanlebjpkfaaGreatDoor
open Go.RowKit
theorem DsIn.mono {w : World} {B C : Nat} {a0 : Option Addr} {l : List Dw} (h : DsIn w B a0 l) (hC : B ≤ C) : DsIn w C a0 l :=
  ⟨h.1, h.2.1, fun h0 => by obtain ⟨b, off, e, hlt, hc⟩ := h.2.2 h0; exact ⟨b, off, e, by omega, hc⟩⟩
theorem DsIn.eb {w : World} {B : Nat} {a0 : Option Addr} {l : List Dw} (h : DsIn w B a0 l) : Eb l := h.2.1
end Go.Proofs.YtbnkanlebjpkfaaGreatDoor
namespace Go.Proofs.YtbnkanlebjpkfaaGreatDoor
open Go.RowKit
/-- A matrix of the laws' fractions that came in. -/
def MtIn (w : World) (B : Nat) (a0 : Option Addr) (M : List (List Dw)) : Prop :=
  M.length ≤ maxLen ∧ (0 < M.length → ∃ b off, a0 = some ⟨b, off, none⟩ ∧ b < B ∧ ∀ j r, M[j]? = some r → ∃ a cap, w.cell? ⟨b, off + j, none⟩ = some (.slice a r.length cap) ∧ DsIn w B a r)
theorem MtIn.below {w w' : World} {B : Nat} {a0 : Option Addr} {M : List (List Dw)} (h : MtIn w B a0 M) (hb : Below B w w') : MtIn w' B a0 M :=
  ⟨h.1, fun h0 => by
    obtain ⟨b, off, e, hlt, hc⟩ := h.2 h0
    refine ⟨b, off, e, hlt, fun j r hr => ?_⟩
    obtain ⟨a, cap, c0, hd⟩ := hc j r hr
    exact ⟨a, cap, (hb.cell (by exact hlt)).trans c0, hd.below hb⟩⟩
theorem MtIn.mono {w : World} {B C : Nat} {a0 : Option Addr} {M : List (List Dw)} (h : MtIn w B a0 M) (hC : B ≤ C) : MtIn w C a0 M :=
  ⟨h.1, fun h0 => by
    obtain ⟨b, off, e, hlt, hc⟩ := h.2 h0
    refine ⟨b, off, e, by omega, fun j r hr => ?_⟩
    obtain ⟨a, cap, c0, hd⟩ := hc j r hr
    exact ⟨a, cap, c0, hd.mono hC⟩⟩
/-- The exponents of a matrix are machine integers. -/
def EbM (M : List (List Dw)) : Prop := ∀ r ∈ M, Eb r
theorem MtIn.eb {w : World} {B : Nat} {a0 : Option Addr} {M : List (List Dw)} (h : MtIn w B a0 M) : EbM M := by
  intro r hr
  obtain ⟨j, hj⟩ := List.getElem?_of_mem hr
  have h0 : 0 < M.length := by
    rcases Nat.eq_zero_or_pos M.length with k | k
    · rw [List.eq_nil_of_length_eq_zero k] at hj; simp at hj
    · exact k
  obtain ⟨b, off, e, hlt, hc⟩ := h.2 h0
  obtain ⟨a, cap, _, hd⟩ := hc j r hj
  exact hd.eb
attribute [local irreducible] World.cell?
end Go.Proofs.YtbnkanlebjpkfaaGreatDoor
