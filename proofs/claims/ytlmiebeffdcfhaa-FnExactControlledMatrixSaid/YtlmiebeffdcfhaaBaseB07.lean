/- BaseB07: several of our texts in one: DwY DwU PhM. -/
import Derived.Test.YtlmiebeffdcfhaaDwX
import Derived.Test.YtlmiebeffdcfhaaBaseB05
import Derived.Test.YtlmiebeffdcfhaaZwB
import Derived.Test.YtlmiebeffdcfhaaBaseB04
namespace Go.Proofs.Ytlmiebeffdcfhaa
open Go.RowKit
attribute [local irreducible] World.cell?
def okD (x : Dw) : Bool := decide x.ok
theorem okD_true {x : Dw} : okD x = true ↔ x.ok := by simp [okD]
theorem okD_false {x : Dw} : okD x = false ↔ ¬ x.ok := by simp [okD]
theorem okD_self (x : Dw) : okD x = (newB x.n x.e && eqDB (newV x.n x.e) x) := by
  rw [Bool.eq_iff_iff, Bool.and_eq_true, okD_true]
  refine ⟨fun h => ⟨(newV_self h).1, eqDB_iff.2 (newV_self h).2⟩, ?_⟩
  rintro ⟨h1, h2⟩
  have := newV_ok h1
  rw [eqDB_iff.1 h2] at this
  exact this
theorem okD_parts (x : Dw) : okD x = (okB x.n && (decide (0 ≤ x.e ∧ x.e ≤ 60) && (!divB x.n || decide (x.e = 0)))) := by
  rw [Bool.eq_iff_iff, okD_true]
  simp only [Bool.and_eq_true, Bool.or_eq_true, Bool.not_eq_true', decide_eq_true_eq, okB_true, Dw.ok]
  constructor
  · rintro ⟨h1, h2, h3, h4⟩; exact ⟨h1, ⟨h2, h3⟩, h4.symm⟩
  · rintro ⟨h1, ⟨h2, h3⟩, h4⟩; exact ⟨h1, h2, h3, h4.symm⟩
set_option maxRecDepth 100000 in
set_option maxHeartbeats 1600000 in
theorem ivalidD (x : Dw) (w : World) (h0 : -9223372036854775808 ≤ x.e) (h1 : x.e ≤ 9223372036854775807) :
    Calls Try.prog 69 #[(.agg #[.int .i64 x.n.a, .int .i64 x.n.b, .int .i64 x.n.c, .int .i64 x.n.d, .int .i64 x.e])] w fun e w' => e = .returned (.bool (okD x)) ∧ Below w.heap.size w w' := by
  have Hn := Lib.hid (fun w => inew_any x.n x.e w h0 h1)
  rw [okD_self]
  have Heq := eqD (newV x.n x.e) x
  have Hr0 := Lib.hid (heap_alloc_new w (.cells #[.int .i64 x.n.a, .int .i64 x.n.b, .int .i64 x.n.c, .int .i64 x.n.d, .int .i64 x.e] 68))
  generalize eqDB (newV x.n x.e) x = b at *
  generalize newV x.n x.e = r at *
  generalize newB x.n x.e = t at *
  go_enter Try.func69, Try.ntmps69
  go_wp2_with fail
  refine (Hn.out _).mono ?_
  rintro e w1 ⟨rfl, hb1⟩
  have hr0 := below_blk hb1 (by simp) Hr0.out
  have zg1 := lt_of_block hr0
  obtain ⟨c0, c1, c2, c3, c4⟩ := blk_cells5 hr0
  have Hb1 := Lib.hid (below_up (B := w.heap.size) (w := w) (by go_grown) hb1 (by simp))
  clear hb1 hr0
  cases t
  · clear Heq
    go_wp2_with fail
    go_returns
    exact ⟨rfl, by have := Hb1.out; go_grown⟩
  · go_wp2_with fail
    go_returns
    exact ⟨rfl, by have := Hb1.out; go_grown⟩
set_option maxRecDepth 100000 in
set_option maxHeartbeats 1600000 in
theorem svalidD (x : Dw) (w : World) :
    Calls Try.prog 66 #[(.agg #[.int .i64 x.n.a, .int .i64 x.n.b, .int .i64 x.n.c, .int .i64 x.n.d, .int .i64 x.e])] w fun e w' => e = .returned (.bool (okD x)) ∧ Below w.heap.size w w' := by
  have Hd := Lib.hid (sdiv_any x.n)
  have Hv := Lib.hid (fun w => svalid_any x.n (okB x.n) w rfl)
  have Hi := Lib.hid (fun w => lin_any x.e 0 60 (decide (0 ≤ x.e ∧ x.e ≤ 60)) w rfl)
  rw [okD_parts]
  have Hr0 := Lib.hid (heap_alloc_new w (.cells #[.int .i64 x.n.a, .int .i64 x.n.b, .int .i64 x.n.c, .int .i64 x.n.d, .int .i64 x.e] 68))
  generalize divV x.n = q at *
  generalize divB x.n = t at *
  generalize okB x.n = u at *
  generalize decide (0 ≤ x.e ∧ x.e ≤ 60) = v at *
  go_enter Try.func66, Try.ntmps66
  go_wp2_with fail
  refine (Hd.out _).mono ?_
  rintro e w1 ⟨rfl, hb1⟩
  have hr1 := below_blk hb1 (by simp) Hr0.out
  have zg1 := lt_of_block hr1
  have Hr1 := Lib.hid (alloc_blk (.cells #[.int .i64 q.a, .int .i64 q.b, .int .i64 q.c, .int .i64 q.d] 66) hr1)
  obtain ⟨c0, c1, c2, c3, c4⟩ := blk_cells5 hr1
  have hb1' := below_up (B := w.heap.size) (w := w) (by go_grown) hb1 (by simp)
  have Hb1 := Lib.hid (hb1'.alloc hb1'.size (.cells #[.int .i64 q.a, .int .i64 q.b, .int .i64 q.c, .int .i64 q.d] 66))
  clear hb1 hr1 hb1'
  go_wp2_with fail
  refine (Hv.out _).mono ?_
  rintro e w2 ⟨rfl, hb2⟩
  have hr2 := below_blk hb2 (lt_of_block Hr1.out) Hr1.out
  have zg2 := lt_of_block hr2
  clear c0 c1 c2 c3 c4 zg1
  obtain ⟨c0, c1, c2, c3, c4⟩ := blk_cells5 hr2
  have Hb2 := Lib.hid (below_nx Hb1.out hb2)
  clear hb2 hr2
  cases u
  · go_wp2_with fail
    go_returns
    exact ⟨rfl, by have := Hb2.out; go_grown⟩
  · go_wp2_with fail
    refine (Hi.out _).mono ?_
    rintro e w3 ⟨rfl, rfl⟩
    cases v
    · go_wp2_with fail
      go_returns
      exact ⟨rfl, by have := Hb2.out; go_grown⟩
    · cases t
      · go_wp2_with fail
        go_returns
        exact ⟨rfl, by have := Hb2.out; go_grown⟩
      · go_wp2_with fail
        go_returns
        exact ⟨rfl, by have := Hb2.out; go_grown⟩
end Go.Proofs.Ytlmiebeffdcfhaa
namespace Go.Proofs.Ytlmiebeffdcfhaa
open Go.RowKit
attribute [local irreducible] World.cell?
theorem up_step {j : Nat} {m : Zw} (h : mulB m rootE = true) : mulV m rootE = m.root ∧ upB (j + 1) m = upB j m.root ∧ rootN (j + 1) m = rootN j m.root := by
  refine ⟨?_, by rw [upB, h]; rfl, rfl⟩
  obtain ⟨h1, h2, h3⟩ := mulB_iff.1 h
  rw [mulV, if_pos ⟨h1, h2, h3⟩, mul_rootE]
theorem up_stop {j : Nat} {m : Zw} (h : mulB m rootE = false) : upB (j + 1) m = false := by rw [upB, h]; rfl
theorem upV_end {k : Nat} {n : Zw} (h : upB k n = true) : upV k n = rootN k n := upV_of h
theorem upV_no {k : Nat} {n : Zw} (h : upB k n = false) : upV k n = .zero := if_neg (by simp [h])
end Go.Proofs.Ytlmiebeffdcfhaa
namespace Go.Proofs.Ytlmiebeffdcfhaa
/-- Powers of omega. -/
def phL : List Zw := [⟨1, 0, 0, 0⟩, ⟨0, 1, 0, 0⟩, ⟨0, 0, 1, 0⟩, ⟨0, 0, 0, 1⟩, ⟨-1, 0, 0, 0⟩, ⟨0, -1, 0, 0⟩, ⟨0, 0, -1, 0⟩, ⟨0, 0, 0, -1⟩]
def phN (n : Nat) : Zw := phL.getD n .zero
def dPh (i : Int) : Dw := ⟨phN (i % 8).toNat, 0⟩
instance : DecidableEq Zw := fun x y => decidable_of_iff (x.a = y.a ∧ x.b = y.b ∧ x.c = y.c ∧ x.d = y.d) ⟨fun ⟨h1, h2, h3, h4⟩ => by cases x; cases y; simp_all, fun h => by subst h; exact ⟨rfl, rfl, rfl, rfl⟩⟩
theorem phN_ok (n : Nat) (h : n < 8) : (phN n).ok := by
  rcases (show n = 0 ∨ n = 1 ∨ n = 2 ∨ n = 3 ∨ n = 4 ∨ n = 5 ∨ n = 6 ∨ n = 7 by omega) with rfl | rfl | rfl | rfl | rfl | rfl | rfl | rfl <;> decide
theorem res8 (i : Int) : (i % 8).toNat < 8 := by omega
theorem dPh_ok (i : Int) : (dPh i).ok := ⟨phN_ok _ (res8 i), Int.le_refl _, (by decide : (0 : Int) ≤ 60), .inl rfl⟩
theorem phN_mul : ∀ m n : Fin 8, (phN m.val).mul (phN n.val) = phN ((m.val + n.val) % 8) := by decide
theorem phN_inj : ∀ m n : Fin 8, phN m.val = phN n.val → m = n := by decide
theorem dPh_inj {i j : Int} (h : dPh i = dPh j) : i % 8 = j % 8 := by
  have h1 : phN (i % 8).toNat = phN (j % 8).toNat := congrArg Dw.n h
  have h2 := phN_inj ⟨_, res8 i⟩ ⟨_, res8 j⟩ h1
  have h3 : (i % 8).toNat = (j % 8).toNat := congrArg Fin.val h2
  omega
theorem dPh_mul (i j : Int) : dMulB (dPh i) (dPh j) = true ∧ dMulV (dPh i) (dPh j) = dPh (i + j) := by
  have hm : (dPh i).n.mul (dPh j).n = (dPh (i + j)).n := by
    have := phN_mul ⟨_, res8 i⟩ ⟨_, res8 j⟩
    show (phN (i % 8).toNat).mul (phN (j % 8).toNat) = phN ((i + j) % 8).toNat
    rw [show ((i + j) % 8).toNat = ((i % 8).toNat + (j % 8).toNat) % 8 by omega]
    exact this
  have he : (dPh i).e + (dPh j).e = (dPh (i + j)).e := rfl
  have hs := newV_self (dPh_ok (i + j))
  have hb : dMulB (dPh i) (dPh j) = true := dMulB_iff.2 ⟨dPh_ok i, dPh_ok j, mulB_iff.2 ⟨(dPh_ok i).1, (dPh_ok j).1, by rw [hm]; exact (dPh_ok _).1⟩, by rw [hm, he]; exact hs.1⟩
  exact ⟨hb, by rw [dMulV_of hb, hm, he]; exact hs.2⟩
/-- The phase's exponent: the first below 8. -/
def phF (x : Dw) : Option Nat := (List.range 8).find? (fun i => eqDB (dPh (i : Int)) x)
def phEB (x : Dw) : Bool := (phF x).isSome
def phEV (x : Dw) : Int := ((phF x).getD 0 : Nat)
theorem phF_some {x : Dw} {k : Nat} (h : phF x = some k) : k < 8 ∧ dPh (k : Int) = x := by
  have h1 := List.find?_some h
  have h2 := List.mem_of_find?_eq_some h
  exact ⟨List.mem_range.1 h2, eqDB_iff.1 h1⟩
theorem phF_self (i : Int) : phEB (dPh i) = true ∧ phEV (dPh i) = i % 8 := by
  cases h : phF (dPh i) with
  | none =>
    exfalso
    have := List.find?_eq_none.1 h (i % 8).toNat (List.mem_range.2 (res8 i))
    rw [show dPh (((i % 8).toNat : Nat) : Int) = dPh i by
      unfold dPh
      rw [show ((((i % 8).toNat : Nat) : Int) % 8).toNat = (i % 8).toNat by omega]] at this
    exact this (eqDB_self _)
  | some k =>
    obtain ⟨h1, h2⟩ := phF_some h
    have := dPh_inj h2
    refine ⟨by rw [phEB, h]; rfl, ?_⟩
    rw [phEV, h]
    show (k : Int) = i % 8
    omega
/-- Real numbers. -/
def Zw.re (n : Zw) : Prop := n.c = 0 ∧ n.d = -n.b
def rsN (n : Zw) : Int := sgn n.a n.b
theorem re_root {n : Zw} (h : n.re) : n.root.re ∧ n.root.a = 2 * n.b ∧ n.root.b = n.a := by
  obtain ⟨a, b, c, d⟩ := n
  obtain ⟨h1, h2⟩ := h
  simp only [] at h1 h2
  subst h1 h2
  simp only [Zw.root, Zw.re]
  omega
theorem rs_root {n : Zw} (h : n.re) : rsN n.root = rsN n := by
  obtain ⟨_, h2, h3⟩ := re_root h
  unfold rsN
  rw [h2, h3]
  exact sgn_root n.a n.b
theorem re_of_root {n : Zw} (h : n.root.re) : n.re := by
  obtain ⟨a, b, c, d⟩ := n
  simp only [Zw.root, Zw.re] at *
  omega
theorem re_rootN {n : Zw} (h : n.re) (k : Nat) : (rootN k n).re ∧ rsN (rootN k n) = rsN n := by
  induction k generalizing n with
  | zero => exact ⟨h, rfl⟩
  | succ k ih =>
    have := ih (re_root h).1
    exact ⟨this.1, this.2.trans (rs_root h)⟩
theorem re_of_rootN {n : Zw} {k : Nat} (h : (rootN k n).re) : n.re := by
  induction k generalizing n with
  | zero => exact h
  | succ k ih => exact re_of_root (ih h)
/-- What NewDOmega gives of a real numerator. -/
theorem re_new {n : Zw} {k : Int} (hb : newB n k = true) (h : n.re) : (newV n k).n.re ∧ rsN (newV n k).n = rsN n := by
  have hs := newV_same hb
  unfold Same at hs
  have hr : (rootN k.toNat (newV n k).n).re := by rw [hs]; exact (re_rootN h _).1
  have h1 := re_of_rootN hr
  refine ⟨h1, ?_⟩
  rw [← (re_rootN h1 k.toNat).2, hs, (re_rootN h _).2]
/-- RealSign. -/
def reB (x : Dw) : Bool := decide (x.ok ∧ x.n.c = 0 ∧ x.n.d = -x.n.b)
def rsV (x : Dw) : Int := if reB x then sgn x.n.a x.n.b else 0
theorem reB_iff {x : Dw} : reB x = true ↔ x.ok ∧ x.n.re := by simp [reB, Zw.re]
theorem rsV_of {x : Dw} (h : reB x = true) : rsV x = rsN x.n := if_pos h
theorem rsV_no {x : Dw} (h : reB x = false) : rsV x = 0 := if_neg (by simp [h])
/-- The squared norm. -/
theorem norm_re (n : Zw) : (n.mul n.conj).re := by
  obtain ⟨a, b, c, d⟩ := n
  simp only [Zw.mul, Zw.conj, Zw.re, Int.mul_neg, Int.mul_comm b a, Int.mul_comm c a, Int.mul_comm d a, Int.mul_comm c b, Int.mul_comm d b, Int.mul_comm d c]
  omega
theorem norm_ab (n : Zw) : (n.mul n.conj).a = n.a * n.a + n.b * n.b + n.c * n.c + n.d * n.d ∧ (n.mul n.conj).b = n.a * n.b + n.b * n.c + n.c * n.d - n.a * n.d := by
  obtain ⟨a, b, c, d⟩ := n
  simp only [Zw.mul, Zw.conj, Int.mul_neg, Int.mul_comm b a, Int.mul_comm c a, Int.mul_comm d a, Int.mul_comm c b, Int.mul_comm d b, Int.mul_comm d c]
  omega
theorem norm_pos {n : Zw} (h : n ≠ .zero) : rsN (n.mul n.conj) = 1 := by
  obtain ⟨h1, h2⟩ := norm_ab n
  unfold rsN
  rw [h1, h2]
  obtain ⟨a, b, c, d⟩ := n
  simp only []
  -- twice the norm is the sum of two squares
  have e0 : (a * a + b * b + c * c + d * d) * 2 = ((b - d) * (b - d) + 2 * (a * a)) + ((b + d) * (b + d) + 2 * (c * c)) := by
    simp only [Int.sub_mul, Int.mul_sub, Int.add_mul, Int.mul_add, Int.mul_comm d b]; omega
  have e1 : (a * b + b * c + c * d - a * d) * 2 = 2 * ((b - d) * a) + 2 * ((b + d) * c) := by
    simp only [Int.sub_mul, Int.add_mul, Int.mul_comm b a, Int.mul_comm d a, Int.mul_comm d c]; omega
  rw [← sgn_root, ← sgn_root, Int.mul_comm 2, Int.mul_comm 2, e0, e1]
  rw [sgn_pos]
  by_cases hp : b - d ≠ 0 ∨ a ≠ 0
  · have p1 := pos_sq hp
    by_cases hq : b + d ≠ 0 ∨ c ≠ 0
    · exact p1.add (pos_sq hq)
    · have h1 : b + d = 0 := by omega
      have h2 : c = 0 := by omega
      rw [h1, h2]
      simpa using p1
  · have h1 : b - d = 0 := by omega
    have h2 : a = 0 := by omega
    have hq : b + d ≠ 0 ∨ c ≠ 0 := by
      rcases (show b + d ≠ 0 ∨ b + d = 0 by omega) with k | k
      · exact .inl k
      · refine .inr (fun hc => h ?_)
        rw [show a = 0 from h2, show b = 0 by omega, show c = 0 from hc, show d = 0 by omega]
        rfl
    have p2 := pos_sq hq
    rw [h1, h2]
    simpa using p2
def nsB (x : Dw) : Bool := dMulB x (dConjV x)
def nsV (x : Dw) : Dw := dMulV x (dConjV x)
/-- The squared norm is real and not negative, zero at zero alone. -/
theorem size_law {x : Dw} (h : nsB x = true) : reB (nsV x) = true ∧ 0 ≤ rsV (nsV x) ∧ (rsV (nsV x) = 0 ↔ x = .zero) := by
  unfold nsB at h
  unfold nsV
  have hx := (dMulB_iff.1 h).1
  rw [show dConjV x = x.conj from if_pos hx] at h ⊢
  have hm := dMulB_iff.1 h
  have hn := hm.2.2.2
  have hv := dMulV_of h
  have hr := re_new hn (norm_re x.n)
  have hre : reB (dMulV x x.conj) = true := reB_iff.2 ⟨dMulV_ok h, by rw [hv]; exact hr.1⟩
  rw [rsV_of hre, hv]
  have e := hr.2
  refine ⟨by rw [hv] at hre; exact hre, ?_⟩
  by_cases h0 : x.n = .zero
  · have hz : x.n.mul x.conj.n = .zero := by
      show x.n.mul x.n.conj = .zero
      rw [h0]; decide
    rw [hz] at e ⊢
    have : rsN Zw.zero = 0 := by decide
    rw [this] at e
    refine ⟨by rw [e]; exact Int.le_refl _, fun _ => ?_, fun _ => e⟩
    obtain ⟨n, k⟩ := x
    simp only [] at h0
    subst h0
    have hk : k = 0 := by
      rcases hx.2.2.2 with hk | hk
      · exact hk
      · rw [show divB (Dw.mk Zw.zero k).n = true from (by decide : divB Zw.zero = true)] at hk; cases hk
    subst hk
    rfl
  · have hp : rsN (x.n.mul x.conj.n) = 1 := norm_pos h0
    rw [hp] at e
    refine ⟨by rw [e]; decide, fun k => by rw [e] at k; exact absurd k (by decide), fun k => ?_⟩
    rw [k] at h0
    exact absurd rfl h0
/-- The sign is odd; sums of positive numbers are positive. -/
theorem sign_neg {x : Dw} (h : reB x = true) : rsV (dNegV x) = -rsV x := by
  obtain ⟨h1, h2⟩ := reB_iff.1 h
  have hn : dNegV x = x.neg := if_pos h1
  have hre : reB x.neg = true := reB_iff.2 ⟨dneg_ok.2 h1, by
    obtain ⟨⟨a, b, c, d⟩, e⟩ := x
    simp only [Dw.neg, Zw.neg, Zw.re] at *
    omega⟩
  rw [hn, rsV_of hre, rsV_of h]
  exact sgn_neg
theorem sign_add {x y : Dw} (h : dAddB x y = true) (hx : rsV x = 1) (hy : rsV y = 1) : rsV (dAddV x y) = 1 := by
  have rx : reB x = true := by
    cases k : reB x
    · rw [rsV_no k] at hx; exact absurd hx (by decide)
    · rfl
  have ry : reB y = true := by
    cases k : reB y
    · rw [rsV_no k] at hy; exact absurd hy (by decide)
    · rfl
  rw [rsV_of rx] at hx
  rw [rsV_of ry] at hy
  have hn := (dAddB_iff.1 h).2.2.2.2.2
  have ha := re_rootN (reB_iff.1 rx).2 (topE x y - x.e).toNat
  have hb := re_rootN (reB_iff.1 ry).2 (topE x y - y.e).toNat
  have pa := sgn_pos.1 (ha.2.trans hx)
  have pb := sgn_pos.1 (hb.2.trans hy)
  have hsum : ((numA x y).add (numB x y)).re ∧ rsN ((numA x y).add (numB x y)) = 1 := by
    refine ⟨?_, sgn_pos.2 (pa.add pb)⟩
    have h1 := ha.1
    have h2 := hb.1
    unfold numA numB
    simp only [Zw.re, Zw.add] at *
    omega
  have hr := re_new hn hsum.1
  have hv := dAddV_of h
  have hre : reB (dAddV x y) = true := reB_iff.2 ⟨dAddV_ok h, by rw [hv]; exact hr.1⟩
  rw [rsV_of hre, hv, hr.2]
  exact hsum.2
end Go.Proofs.Ytlmiebeffdcfhaa
