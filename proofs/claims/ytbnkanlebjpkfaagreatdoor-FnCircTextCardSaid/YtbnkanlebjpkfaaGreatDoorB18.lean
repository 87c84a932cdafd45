/- B18: several of our texts in one: AgV AgN ApM AgM CpM CiS CmA CpN. -/
import Derived.Test.YtbnkanlebjpkfaaGreatDoorB14
import Derived.Test.YtbnkanlebjpkfaaGreatDoorB16
import Derived.Test.YtbnkanlebjpkfaaGreatDoorB08
import Derived.Test.YtbnkanlebjpkfaaGreatDoorB17
import Derived.Test.YtbnkanlebjpkfaaGreatDoorB15
import Derived.Test.YtbnkanlebjpkfaaGreatDoorB06
import Derived.Test.YtbnkanlebjpkfaaGreatDoorB13
import Derived.Laws.StructEq
namespace Go.Proofs.YtbnkanlebjpkfaaGreatDoor
theorem dAddB_ok {x y : Dw} (h : dAddB x y = true) : x.ok ∧ y.ok := ⟨(dAddB_iff.1 h).1, (dAddB_iff.1 h).2.1⟩
theorem dMulB_ok {x y : Dw} (h : dMulB x y = true) : x.ok ∧ y.ok := ⟨(dMulB_iff.1 h).1, (dMulB_iff.1 h).2.1⟩
/-- The numerator over the sixtieth power of the root. -/
def vl (x : Dw) : Zw := rootN (60 - x.e.toNat) x.n
theorem vl_add {x y : Dw} (h : dAddB x y = true) : vl (dAddV x y) = (vl x).add (vl y) := by
  have ha := adds_of h
  have hx := (dAddB_ok h).1.2.2.1
  have hy := (dAddB_ok h).2.2.2.1
  have hs := (dAddV_ok h).2.2.1
  generalize dAddV x y = s at *
  unfold Adds at ha
  apply rootN_inj (k := x.e.toNat + y.e.toNat + s.e.toNat)
  unfold vl
  rw [rootN_addZ, ← rootN_add, ← rootN_add, ← rootN_add, show 60 - s.e.toNat + (x.e.toNat + y.e.toNat + s.e.toNat) = (x.e.toNat + y.e.toNat) + 60 by omega, rootN_add, ha, ← rootN_add, rootN_addZ, ← rootN_add, ← rootN_add]
  congr 1 <;> congr 1 <;> omega
theorem vl_mul {x y : Dw} (h : dMulB x y = true) : rootN 60 (vl (dMulV x y)) = (vl x).mul (vl y) := by
  have ha := muls_of h
  have hx := (dMulB_ok h).1.2.2.1
  have hy := (dMulB_ok h).2.2.2.1
  have hs := (dMulV_ok h).2.2.1
  generalize dMulV x y = s at *
  unfold Muls at ha
  apply rootN_inj (k := x.e.toNat + y.e.toNat + s.e.toNat)
  unfold vl
  rw [← rootN_mul2, ← rootN_add, ← rootN_add, ← rootN_add, show 60 - s.e.toNat + (60 + (x.e.toNat + y.e.toNat + s.e.toNat)) = (x.e.toNat + y.e.toNat) + 120 by omega, rootN_add, ha, ← rootN_add]
  congr 1; omega
/-- A factor over the root. -/
def wt (b : Dw) : Zw := rootN (1 - b.e.toNat) b.n
/-- A sum of n numbers. -/
def sumZ : Nat → (Nat → Zw) → Zw
  | 0, _ => .zero
  | n + 1, f => (sumZ n f).add (f n)
/-- What a list of places gives to place j. -/
def cf : List (Nat × Dw) → Nat → Zw
  | [], _ => .zero
  | p :: r, j => if p.1 = j then (wt p.2).add (cf r j) else cf r j
end Go.Proofs.YtbnkanlebjpkfaaGreatDoor
namespace Go.Proofs.YtbnkanlebjpkfaaGreatDoor
end Go.Proofs.YtbnkanlebjpkfaaGreatDoor
namespace Go.Proofs.YtbnkanlebjpkfaaGreatDoor
open Go.RowKit
attribute [local irreducible] World.cell?
end Go.Proofs.YtbnkanlebjpkfaaGreatDoor
namespace Go.Proofs.YtbnkanlebjpkfaaGreatDoor
end Go.Proofs.YtbnkanlebjpkfaaGreatDoor
namespace Go.Proofs.YtbnkanlebjpkfaaGreatDoor
def oneZ : Zw := ⟨1, 0, 0, 0⟩
/-- The coefficient from i to j of gates one behind the other, over the root's power of their number. -/
def cl (N : Nat) : List Gt → Nat → Nat → Zw
  | [], i, j => if i = j then oneZ else .zero
  | g :: L, i, j => sumZ N fun m => (cf (goesG g i) m).mul (cl N L m j)
/-- The matrix M represents, over the root's power s, the coefficients C (from the column to the row). -/
def Rep (M : List (List Dw)) (N s : Nat) (C : Nat → Nat → Zw) : Prop :=
  M.length = N ∧ (∀ r ∈ M, r.length = N ∧ ∀ x ∈ r, x.ok) ∧ ∀ k, k < N → ∀ i, i < N → rootN s (vl ((M.getD k []).getD i .zero)) = rootN 60 (C i k)
theorem Rep.row {M : List (List Dw)} {N s : Nat} {C : Nat → Nat → Zw} (h : Rep M N s C) {k : Nat} (hk : k < N) : ∃ r, M[k]? = some r ∧ M.getD k [] = r ∧ r.length = N ∧ ∀ x ∈ r, x.ok := by
  have hl : k < M.length := by rw [h.1]; exact hk
  refine ⟨M[k], List.getElem?_eq_getElem hl, ?_, h.2.1 _ (List.getElem_mem hl)⟩
  rw [List.getD_eq_getElem?_getD, List.getElem?_eq_getElem hl]
  rfl
end Go.Proofs.YtbnkanlebjpkfaaGreatDoor
namespace Go.Proofs.YtbnkanlebjpkfaaGreatDoor
open Go.RowKit
def eqGB (x y : Gt) : Bool := x.k == y.k && (x.a == y.a && (x.b == y.b && x.c == y.c))
theorem eqGB_iff {x y : Gt} : eqGB x y = true ↔ x = y := by
  simp only [eqGB, Bool.and_eq_true, beq_iff_eq]
  exact ⟨fun ⟨h0, h1, h2, h3⟩ => by cases x; cases y; simp_all, fun h => by subst h; exact ⟨rfl, rfl, rfl, rfl⟩⟩
theorem eqGB_no {x y : Gt} (h : x ≠ y) : eqGB x y = false := by
  rw [Bool.eq_false_iff]; exact fun k => h (eqGB_iff.1 k)
instance : DecidableEq Gt := fun x y => if h : eqGB x y = true then .isTrue (eqGB_iff.1 h) else .isFalse fun k => h (eqGB_iff.2 k)
theorem ite4 (p q r s : Prop) [Decidable p] [Decidable q] [Decidable r] [Decidable s] (w : World) :
    (if p then if q then if r then if s then Result.ok (Value.bool true) w else Result.ok (Value.bool false) w else Result.ok (Value.bool false) w else Result.ok (Value.bool false) w else Result.ok (Value.bool false) w) =
    Result.ok (Value.bool (decide p && (decide q && (decide r && decide s)))) w := by
  by_cases p <;> by_cases q <;> by_cases r <;> by_cases s <;> simp [*]
set_option maxRecDepth 100000 in
set_option maxHeartbeats 1600000 in
theorem eqGv (x y : Gt) (w : World) : (binOp .eql 40 (.agg #[.int .i64 x.k, .int .i64 x.a, .int .i64 x.b, .int .i64 x.c]) (.agg #[.int .i64 y.k, .int .i64 y.a, .int .i64 y.b, .int .i64 y.c])).run Tryz.prog w = .ok (.bool (eqGB x y)) w := by
  rw [run_eql_struct, run_equalIn_struct _ 9999 _ _ _ (by kernel_rfl) (by kernel_rfl)]
  simp [go_sem]
  rw [ite4]
  rfl
set_option maxRecDepth 100000 in
set_option maxHeartbeats 1600000 in
theorem neGv (x y : Gt) (w : World) : (binOp .neq 40 (.agg #[.int .i64 x.k, .int .i64 x.a, .int .i64 x.b, .int .i64 x.c]) (.agg #[.int .i64 y.k, .int .i64 y.a, .int .i64 y.b, .int .i64 y.c])).run Tryz.prog w = .ok (.bool (!eqGB x y)) w := by
  rw [run_neq_struct]
  have h := eqGv x y w
  rw [run_eql_struct] at h
  generalize (Op.equalIn 10000 40 (.agg #[.int .i64 x.k, .int .i64 x.a, .int .i64 x.b, .int .i64 x.c]) (.agg #[.int .i64 y.k, .int .i64 y.a, .int .i64 y.b, .int .i64 y.c])).run Tryz.prog w = r at *
  cases r with
  | ok b w1 => simp only [Result.andThen_ok, Result.ok.injEq, Value.bool.injEq] at h ⊢; exact ⟨by rw [h.1], h.2⟩
  | halt a w1 => simp [Result.andThen] at h
theorem eqG_take {a b : List Gt} {j : Nat} {x y : Gt} (hx : a[j]? = some x) (hy : b[j]? = some y) (h : a.take j = b.take j) (hxy : x = y) : a.take (j + 1) = b.take (j + 1) := by
  rw [List.take_add_one, List.take_add_one, h, hx, hy, hxy]
attribute [local irreducible] World.cell?
set_option maxRecDepth 100000 in
set_option maxHeartbeats 1600000 in
theorem sgates (B C : Nat) (v u : Value) (a b : List Gt) (w : World) (hv : gtE.Sl w B v a) (hu : gtE.Sl w C u b) (hm : a.length ≤ 1048576) (_ : b.length ≤ 1048576) :
    Calls Tryz.prog 33 #[v, u] w fun e w' => e = .returned (.bool (decide (a = b))) ∧ Below w.heap.size w w' := by
  obtain ⟨p, cap, rfl, hcap, hr⟩ := hv
  obtain ⟨p', cap', rfl, hcap', hr'⟩ := hu
  have Hr := Lib.hid hr
  have Hr' := Lib.hid hr'
  clear hr hr'
  by_cases hl : a.length = b.length
  · obtain ⟨T, hT⟩ : ∃ T, T = decide (a = b) := ⟨_, rfl⟩
    rw [← hT]
    have HT := Lib.hid hT
    clear hT
    rw [← hl] at Hr' hcap' ⊢
    have Hl := Lib.hid hl
    clear hl
    have hd2 : ((a.length : Int) != a.length) = false := by simp
    go_enter Tryz.func33, Tryz.ntmps33
    go_wp2_with fail
    go_loopg [5] a.length (fun k i wr => ∃ j : Nat, k = a.length - j ∧ j ≤ a.length ∧ i = .int .i64 j ∧ Hid (a.take j = b.take j) ∧ Hid (Below w.heap.size w wr))
    case atStart => exact ⟨0, rfl, Nat.zero_le _, rfl, Lib.hid rfl, Below.refl _ _⟩
    case round =>
      obtain ⟨j, rfl, hj, rfl, Heq, Hb⟩ := hrel
      by_cases hlt : j < a.length
      · obtain ⟨g, rfl, _, hrow⟩ := Hr.out (by omega)
        obtain ⟨g', rfl, _, hrow'⟩ := Hr'.out (by omega)
        obtain ⟨x, hx⟩ : ∃ x, a[j]? = some x := ⟨a[j], List.getElem?_eq_getElem hlt⟩
        obtain ⟨y, hy⟩ : ∃ y, b[j]? = some y := ⟨b[j]'(by have := Hl.out; omega), List.getElem?_eq_getElem _⟩
        have r1 := hrow.below Hb.out hrow.lt
        have r2 := hrow'.below Hb.out hrow'.lt
        obtain ⟨c0, c1, c2, c3⟩ := GRow.cells r1 hx
        obtain ⟨d0, d1, d2, d3⟩ := GRow.cells r2 hy
        have hne := neGv x y
        have Hx := Lib.hid hx
        have Hy := Lib.hid hy
        clear hx hy hrow hrow' r1 r2
        go_upto_region 6 with fail
        by_cases hxy : x = y
        · rw [eqGB_iff.2 hxy] at hne
          have Hxy := Lib.hid hxy
          clear hxy
          go_quiet (fail)
          go_wp2_with fail
          go_roundg (a.length - (j + 1))
          case measure => omega
          case rel => exact ⟨j + 1, rfl, by omega, by go_num, Lib.hid (eqG_take Hx.out Hy.out Heq.out Hxy.out), below_dn Hb.out _⟩
        · rw [eqGB_no hxy] at hne
          have hF : a ≠ b := fun h => hxy (by have h1 := Hx.out; rw [h, Hy.out] at h1; injection h1 with h1; exact h1.symm)
          obtain rfl : T = false := HT.out.trans (decide_eq_false hF)
          clear hF hxy
          go_quiet (fail)
          go_wp2_with fail
          go_ret
          exact ⟨rfl, below_dn Hb.out _⟩
      · obtain rfl : j = a.length := by omega
        have hE := Heq.out
        rw [List.take_length, List.take_of_length_le (by rw [← Hl.out]; exact Nat.le_refl _)] at hE
        obtain rfl : T = true := HT.out.trans (decide_eq_true hE)
        go_wp2_with fail
        go_ret
        exact ⟨rfl, Hb.out⟩
  · rw [decide_eq_false (fun h => hl (by rw [h]))]
    have hd2 : ((a.length : Int) != b.length) = true := by simp; omega
    go_enter Tryz.func33, Tryz.ntmps33
    go_wp2_with fail
    go_ret
    exact ⟨rfl, Below.refl _ _⟩
theorem infoG3 : (Tryz.prog.info? 40).map (fun i => (i.zero, i.size, i.bytes)) = some (some (.agg #[.int .i64 0, .int .i64 0, .int .i64 0, .int .i64 0]), 4, 32) := by kernel_rfl
end Go.Proofs.YtbnkanlebjpkfaaGreatDoor
namespace Go.Proofs.YtbnkanlebjpkfaaGreatDoor
open Go.RowKit
def Ok (l : List Dw) : Prop := ∀ x ∈ l, x.ok
theorem Ok.set {l : List Dw} (h : Ok l) (j : Nat) {x : Dw} (hx : x.ok) : Ok (l.set j x) := fun y hy => by
  rcases List.mem_or_eq_of_mem_set hy with hy | rfl
  · exact h y hy
  · exact hx
theorem Ok.eb {l : List Dw} (h : Ok l) : Eb l := fun x hx => by
  obtain ⟨_, h0, h1, _⟩ := h x hx
  omega
attribute [local irreducible] World.cell?
end Go.Proofs.YtbnkanlebjpkfaaGreatDoor
namespace Go.Proofs.YtbnkanlebjpkfaaGreatDoor
/-- The root's power below a gate's numerators. -/
def scK (k : Int) : Nat := if k = 4 then 1 else 0
end Go.Proofs.YtbnkanlebjpkfaaGreatDoor
