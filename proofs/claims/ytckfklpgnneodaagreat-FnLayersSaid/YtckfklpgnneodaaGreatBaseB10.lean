/- BaseB10: several of our texts in one: AgV LyN AgN ApM AgM CpM CmA. -/
import Derived.Test.YtckfklpgnneodaaGreatBaseB06
import Derived.Test.YtckfklpgnneodaaGreatBaseB08
import Derived.Test.YtckfklpgnneodaaGreatBaseB05
import Derived.Test.YtckfklpgnneodaaGreatBaseB09
namespace Go.Proofs.YtckfklpgnneodaaGreat
theorem dAddB_ok {x y : Dw} (h : dAddB x y = true) : x.ok ∧ y.ok := ⟨(dAddB_iff.1 h).1, (dAddB_iff.1 h).2.1⟩
theorem dMulB_ok {x y : Dw} (h : dMulB x y = true) : x.ok ∧ y.ok := ⟨(dMulB_iff.1 h).1, (dMulB_iff.1 h).2.1⟩
theorem mul_assoc' (x y z : Zw) : (x.mul y).mul z = x.mul (y.mul z) := by
  apply Zw.ext4 <;> simp only [Zw.mul] <;> grind
theorem add_assoc' (x y z : Zw) : (x.add y).add z = x.add (y.add z) := by
  apply Zw.ext4 <;> simp only [Zw.add] <;> omega
theorem add_zero' (x : Zw) : x.add .zero = x := by
  apply Zw.ext4 <;> simp [Zw.add, Zw.zero]
theorem zero_add' (x : Zw) : Zw.zero.add x = x := by
  apply Zw.ext4 <;> simp [Zw.add, Zw.zero]
theorem zero_mul' (x : Zw) : Zw.zero.mul x = .zero := by
  apply Zw.ext4 <;> simp [Zw.mul, Zw.zero]
theorem mul_zero' (x : Zw) : x.mul .zero = .zero := by
  apply Zw.ext4 <;> simp [Zw.mul, Zw.zero]
theorem mul_add' (x y z : Zw) : x.mul (y.add z) = (x.mul y).add (x.mul z) := by
  rw [← mul_comm', add_mul', mul_comm' y, mul_comm' z]
theorem add_left' (x y z : Zw) : x.add (y.add z) = y.add (x.add z) := by
  rw [← add_assoc', add_comm' y x, add_assoc']
theorem rootN_z : ∀ k, rootN k .zero = .zero
  | 0 => rfl
  | k + 1 => rootN_z k
/-- The numerator over the sixtieth power of the root. -/
def vl (x : Dw) : Zw := rootN (60 - x.e.toNat) x.n
theorem vl_zero : vl .zero = .zero := rootN_z _
theorem vl_inj {x y : Dw} (hx : x.ok) (hy : y.ok) (h : vl x = vl y) : x = y := by
  refine unique hx hy ?_
  have hx1 := hx.2.2.1
  have hy1 := hy.2.2.1
  have h2 : rootN (x.e.toNat + y.e.toNat) (vl x) = rootN (x.e.toNat + y.e.toNat) (vl y) := by rw [h]
  unfold vl at h2
  rw [← rootN_add, ← rootN_add, show 60 - x.e.toNat + (x.e.toNat + y.e.toNat) = y.e.toNat + 60 by omega, show 60 - y.e.toNat + (x.e.toNat + y.e.toNat) = x.e.toNat + 60 by omega, rootN_add, rootN_add] at h2
  exact rootN_inj h2
theorem vl_add {x y : Dw} (h : dAddB x y = true) : vl (dAddV x y) = (vl x).add (vl y) := by
  have ha := adds_of h
  have hx := (dAddB_ok h).1.2.2.1
  have hy := (dAddB_ok h).2.2.2.1
  have hs := (dAddV_ok h).2.2.1
  generalize dAddV x y = s at *
  unfold Adds at ha
  apply rootN_inj (k := x.e.toNat + y.e.toNat + s.e.toNat)
  unfold vl
  rw [rootN_addZ, ← rootN_add, ← rootN_add, ← rootN_add, show 60 - s.e.toNat + (x.e.toNat + y.e.toNat + s.e.toNat) = (x.e.toNat + y.e.toNat) + 60 by omega, rootN_add, ha, ← rootN_add, rootN_addZ, ← rootN_add, ← rootN_add]
  congr 1 <;> congr 1 <;> omega
theorem vl_mul {x y : Dw} (h : dMulB x y = true) : rootN 60 (vl (dMulV x y)) = (vl x).mul (vl y) := by
  have ha := muls_of h
  have hx := (dMulB_ok h).1.2.2.1
  have hy := (dMulB_ok h).2.2.2.1
  have hs := (dMulV_ok h).2.2.1
  generalize dMulV x y = s at *
  unfold Muls at ha
  apply rootN_inj (k := x.e.toNat + y.e.toNat + s.e.toNat)
  unfold vl
  rw [← rootN_mul2, ← rootN_add, ← rootN_add, ← rootN_add, show 60 - s.e.toNat + (60 + (x.e.toNat + y.e.toNat + s.e.toNat)) = (x.e.toNat + y.e.toNat) + 120 by omega, rootN_add, ha, ← rootN_add]
  congr 1; omega
/-- A factor over the root. -/
def wt (b : Dw) : Zw := rootN (1 - b.e.toNat) b.n
theorem vl_wt {b : Dw} (h : b.e.toNat ≤ 1) : vl b = rootN 59 (wt b) := by
  unfold vl wt
  rw [← rootN_add]
  congr 1; omega
theorem vl_mulW {x b : Dw} (h : dMulB x b = true) (hb : b.e.toNat ≤ 1) : (vl (dMulV x b)).root = (vl x).mul (wt b) := by
  have h1 := vl_mul h
  rw [vl_wt hb, mul_comm' (rootN 59 (wt b)), ← rootN_mul, mul_comm' (vl x), show (60 : Nat) = 1 + 59 from rfl, rootN_add] at h1
  exact rootN_inj h1
/-- A sum of n numbers. -/
def sumZ : Nat → (Nat → Zw) → Zw
  | 0, _ => .zero
  | n + 1, f => (sumZ n f).add (f n)
theorem sumZ_congr {n : Nat} {f g : Nat → Zw} (h : ∀ i, i < n → f i = g i) : sumZ n f = sumZ n g := by
  induction n with
  | zero => rfl
  | succ n ih => rw [sumZ, sumZ, ih fun i hi => h i (by omega), h n (by omega)]
theorem sumZ_zero (n : Nat) : sumZ n (fun _ => .zero) = .zero := by
  induction n with
  | zero => rfl
  | succ n ih => rw [sumZ, ih, add_zero']
theorem sumZ_add (n : Nat) (f g : Nat → Zw) : sumZ n (fun i => (f i).add (g i)) = (sumZ n f).add (sumZ n g) := by
  induction n with
  | zero => exact (add_zero' _).symm
  | succ n ih => rw [sumZ, sumZ, sumZ, ih, add_assoc', add_assoc', add_left' (sumZ n g)]
theorem sumZ_mul (n : Nat) (f : Nat → Zw) (z : Zw) : (sumZ n f).mul z = sumZ n (fun i => (f i).mul z) := by
  induction n with
  | zero => exact zero_mul' z
  | succ n ih => rw [sumZ, sumZ, add_mul', ih]
theorem mul_sumZ (n : Nat) (f : Nat → Zw) (z : Zw) : z.mul (sumZ n f) = sumZ n (fun i => z.mul (f i)) := by
  rw [← mul_comm', sumZ_mul]
  exact sumZ_congr fun i _ => mul_comm' _ _
theorem root_sumZ (n : Nat) (f : Nat → Zw) : (sumZ n f).root = sumZ n (fun i => (f i).root) := by
  induction n with
  | zero => rfl
  | succ n ih => rw [sumZ, sumZ, root_add, ih]
theorem sumZ_swap (n m : Nat) (f : Nat → Nat → Zw) : sumZ n (fun i => sumZ m (fun j => f i j)) = sumZ m (fun j => sumZ n (fun i => f i j)) := by
  induction n with
  | zero => exact (sumZ_zero m).symm
  | succ n ih =>
    rw [sumZ, ih, ← sumZ_add]
    rfl
/-- One term alone. -/
theorem sumZ_one {n k : Nat} (f : Nat → Zw) (hk : k < n) (h : ∀ i, i < n → i ≠ k → f i = .zero) : sumZ n f = f k := by
  induction n with
  | zero => omega
  | succ n ih =>
    rw [sumZ]
    by_cases e : k = n
    · subst e
      rw [sumZ_congr (g := fun _ => .zero) fun i hi => h i (by omega) (by omega), sumZ_zero, zero_add']
    · rw [ih (by omega) fun i hi => h i (by omega), h n (by omega) (by omega), add_zero']
/-- What a sum loses at its head. -/
theorem sumZ_head (n : Nat) (f : Nat → Zw) : sumZ (n + 1) f = (f 0).add (sumZ n fun i => f (i + 1)) := by
  induction n with
  | zero => rw [sumZ, sumZ, sumZ, zero_add', add_zero']
  | succ n ih => rw [sumZ, ih, sumZ, add_assoc']
/-- What a list of places gives to place j. -/
def cf : List (Nat × Dw) → Nat → Zw
  | [], _ => .zero
  | p :: r, j => if p.1 = j then (wt p.2).add (cf r j) else cf r j
/-- The same list, each place with its own number. -/
def cfs : List (Nat × Dw) → (Nat → Zw) → Zw
  | [], _ => .zero
  | p :: r, f => ((wt p.2).mul (f p.1)).add (cfs r f)
theorem cf_sum {N : Nat} (f : Nat → Zw) : ∀ (L : List (Nat × Dw)), (∀ p ∈ L, p.1 < N) → sumZ N (fun j => (cf L j).mul (f j)) = cfs L f
  | [], _ => by
    rw [cfs, ← sumZ_zero N]
    exact sumZ_congr fun i _ => zero_mul' _
  | p :: r, h => by
    have ih := cf_sum f r fun q hq => h q (List.mem_cons_of_mem _ hq)
    have h1 : sumZ N (fun j => if p.1 = j then (wt p.2).mul (f j) else .zero) = (wt p.2).mul (f p.1) := by
      rw [sumZ_one _ (h p (List.mem_cons_self ..)) fun i _ hi => if_neg fun e => hi e.symm, if_pos rfl]
    rw [cfs, ← ih, ← h1, ← sumZ_add]
    refine sumZ_congr fun j _ => ?_
    rw [cf]
    by_cases e : p.1 = j
    · rw [if_pos e, if_pos e, add_mul']
    · rw [if_neg e, if_neg e, zero_add']
theorem getD_set (o : List Dw) (k j : Nat) (z : Dw) (hk : k < o.length) : (o.set k z).getD j .zero = if k = j then z else o.getD j .zero := by
  rw [List.getD_eq_getElem?_getD, List.getElem?_set, List.getD_eq_getElem?_getD]
  by_cases e : k = j
  · rw [if_pos e, if_pos e, if_pos hk]; rfl
  · rw [if_neg e, if_neg e]
theorem set_ok' {o : List Dw} {p : Nat} {z : Dw} (h : ∀ y ∈ o, y.ok) (hz : z.ok) : ∀ y ∈ o.set p z, y.ok := fun y hy => by
  rcases List.mem_or_eq_of_mem_set hy with h1 | rfl
  · exact h y h1
  · exact hz
/-- An amplitude sent: what is added at each place. -/
theorem send_val {x : Dw} : ∀ {L : List (Nat × Dw)} {o o' : List Dw}, sendO x L o = some o' → (∀ y ∈ o, y.ok) → (∀ p ∈ L, p.1 < o.length ∧ p.2.e.toNat ≤ 1) →
    o'.length = o.length ∧ (∀ y ∈ o', y.ok) ∧ ∀ j, (vl (o'.getD j .zero)).root = ((vl (o.getD j .zero)).root).add ((vl x).mul (cf L j))
  | [], o, o', h, ho, _ => by
    rw [sendO] at h
    cases h
    exact ⟨rfl, ho, fun j => by rw [cf, mul_zero', add_zero']⟩
  | p :: r, o, o', h, ho, hL => by
    obtain ⟨hp1, hp2⟩ := hL p (List.mem_cons_self ..)
    rw [sendO] at h
    split at h
    · rename_i hb
      rw [Bool.and_eq_true] at hb
      obtain ⟨h1, h2, h3⟩ := send_val h (set_ok' ho (dAddV_ok hb.2)) fun q hq => by
        rw [List.length_set]; exact hL q (List.mem_cons_of_mem _ hq)
      refine ⟨by rw [h1, List.length_set], h2, fun j => ?_⟩
      rw [h3, getD_set _ _ _ _ hp1, cf]
      by_cases e : p.1 = j
      · subst e
        rw [if_pos rfl, if_pos rfl, vl_add hb.2, root_add, vl_mulW hb.1 hp2, mul_add', add_assoc']
      · rw [if_neg e, if_neg e]
    · cases h
/-- All amplitudes sent. -/
theorem ap_val {G : Nat → List (Nat × Dw)} {N : Nat} (hG : ∀ i, i < N → ∀ p ∈ G i, p.1 < N ∧ p.2.e.toNat ≤ 1) : ∀ {v : List Dw} {i : Nat} {o o' : List Dw}, apO G i v o = some o' → i + v.length ≤ N → o.length = N → (∀ y ∈ o, y.ok) →
    o'.length = N ∧ (∀ y ∈ o', y.ok) ∧ ∀ j, (vl (o'.getD j .zero)).root = ((vl (o.getD j .zero)).root).add (sumZ v.length fun a => (vl (v.getD a .zero)).mul (cf (G (i + a)) j))
  | [], i, o, o', h, _, hl, ho => by
    rw [apO] at h
    cases h
    exact ⟨hl, ho, fun j => by rw [List.length_nil, sumZ, add_zero']⟩
  | x :: r, i, o, o', h, hi, hl, ho => by
    rw [List.length_cons] at hi
    have hs : ∀ j, sumZ (r.length + 1) (fun a => (vl ((x :: r).getD a .zero)).mul (cf (G (i + a)) j)) = ((vl x).mul (cf (G i) j)).add (sumZ r.length fun a => (vl (r.getD a .zero)).mul (cf (G (i + 1 + a)) j)) := fun j => by
      rw [sumZ_head]
      congr 1
      refine sumZ_congr fun a _ => ?_
      rw [show i + (a + 1) = i + 1 + a by omega]
      rfl
    rw [apO] at h
    split at h
    · rename_i hx
      obtain ⟨h1, h2, h3⟩ := ap_val hG h (by omega) hl ho
      refine ⟨h1, h2, fun j => ?_⟩
      rw [List.length_cons, hs, h3, hx, vl_zero, zero_mul', zero_add']
    · split at h
      · rename_i o1 ho1
        obtain ⟨k1, k2, k3⟩ := send_val ho1 ho fun p hp => by rw [hl]; exact hG i (by omega) p hp
        obtain ⟨h1, h2, h3⟩ := ap_val hG h (by omega) (k1.trans hl) k2
        refine ⟨h1, h2, fun j => ?_⟩
        rw [List.length_cons, hs, h3, k3, add_assoc']
      · cases h
theorem rep_ok' {n : Nat} : ∀ y ∈ List.replicate n Dw.zero, y.ok := fun y hy => by rw [List.eq_of_mem_replicate hy]; exact zero_ok
theorem rep_getD (n j : Nat) : (List.replicate n Dw.zero).getD j .zero = .zero := by
  rw [List.getD_eq_getElem?_getD, List.getElem?_replicate]
  split <;> rfl
/-- All amplitudes sent, from nothing on. -/
theorem ap_zero {G : Nat → List (Nat × Dw)} {v o : List Dw} (hG : ∀ i, i < v.length → ∀ p ∈ G i, p.1 < v.length ∧ p.2.e.toNat ≤ 1) (h : apO G 0 v (List.replicate v.length .zero) = some o) :
    o.length = v.length ∧ (∀ y ∈ o, y.ok) ∧ ∀ j, (vl (o.getD j .zero)).root = sumZ v.length fun a => (vl (v.getD a .zero)).mul (cf (G a) j) := by
  obtain ⟨h1, h2, h3⟩ := ap_val hG h (by omega) List.length_replicate rep_ok'
  refine ⟨h1, h2, fun j => ?_⟩
  rw [h3, rep_getD, vl_zero, show Zw.zero.root = .zero from rfl, zero_add']
  exact sumZ_congr fun a _ => by rw [Nat.zero_add]
theorem getD_eq {u v : List Dw} (hl : u.length = v.length) (h : ∀ j, j < v.length → u.getD j .zero = v.getD j .zero) : u = v := by
  apply List.ext_getElem hl
  intro j h1 h2
  have := h j h2
  rwa [List.getD_eq_getElem?_getD, List.getD_eq_getElem?_getD, List.getElem?_eq_getElem h1, List.getElem?_eq_getElem h2] at this
theorem getD_ok {v : List Dw} (h : ∀ y ∈ v, y.ok) (j : Nat) : (v.getD j .zero).ok := by
  rw [List.getD_eq_getElem?_getD]
  cases e : v[j]? with
  | none => exact zero_ok
  | some y => exact h y (List.mem_of_getElem? e)
end Go.Proofs.YtckfklpgnneodaaGreat
namespace Go.Proofs.YtckfklpgnneodaaGreat
/-- The bits of some qubits. -/
def gm (l : List Nat) : Nat := l.foldr (fun q m => 1 <<< q ||| m) 0
def gqN (k : Int) (A B C : Nat) : List Nat := [A, B, C].take (ar k)
/-- A gate looks at and turns over its own qubits' bits alone; its factors are phases, over the root at most; it reaches each place once, GateH twice. -/
def ownB (k : Int) (A B C : Nat) : Bool :=
  ((List.range 16).all fun m => m &&& gm (gqN k A B C) != 0 || (List.range 16).all fun i => decide (goesL k A B C (i ^^^ m) = (goesL k A B C i).map fun p => (p.1 ^^^ m, p.2))) &&
  (((List.range 16).all fun i => (goesL k A B C i).all fun p => decide ((p.1 ^^^ i) &&& gm (gqN k A B C) = p.1 ^^^ i) && (decide (p.1 < 16) && decide (p.2.n ∈ phL))) &&
  (List.range 16).all fun j => decide (((List.range 16).flatMap (goesL k A B C)).countP (fun p => p.1 == j) ≤ if k = 4 then 2 else 1))
theorem own_1 : ([1, 2, 3, 4, 5, 6, 7, 8] : List Int).all (fun k => (List.range 4).all fun A => ownB k A 0 0) = true := by decide +kernel
theorem own_2 : ([9, 10, 11] : List Int).all (fun k => (List.range 4).all fun A => (List.range 4).all fun B => A == B || ownB k A B 0) = true := by decide +kernel
theorem own_3 : ((List.range 4).all fun A => (List.range 4).all fun B => (List.range 4).all fun C => A == B || C == A || C == B || ownB 12 A B C) = true := by decide +kernel
end Go.Proofs.YtckfklpgnneodaaGreat
namespace Go.Proofs.YtckfklpgnneodaaGreat
end Go.Proofs.YtckfklpgnneodaaGreat
namespace Go.Proofs.YtckfklpgnneodaaGreat
open Go.RowKit
theorem agV_len2 {g : Gt} {l : List Dw} (h : agB g l = true) : (agV g l).length = l.length := by
  unfold agB at h
  unfold agV
  cases ho : agO g l with
  | none => rw [ho] at h; cases h
  | some o =>
    unfold agO at ho
    split at ho
    · have := apO_len ho
      rw [List.length_replicate] at this
      simpa using this
    · cases ho
theorem agsF_len : ∀ {L : List Gt} {o o' : List Dw}, agsF L o = some o' → o'.length = o.length
  | [], o, o', h => by injection h with h; rw [h]
  | g :: L, o, o', h => by
    rw [agsF] at h
    split at h
    · rename_i hb
      rw [agsF_len h, agV_len2 hb]
    · cases h
theorem agsV_len {L : List Gt} {l : List Dw} (h : agsB L l = true) : (agsV L l).length = l.length := by
  unfold agsB at h
  unfold agsV
  cases ho : agsO L l with
  | none => rw [ho] at h; cases h
  | some o =>
    unfold agsO at ho
    split at ho
    · simpa using agsF_len ho
    · cases ho
/-- The columns of a circuit's map on n qubits, and whether each is found. -/
def cirC (L : List Gt) (n : Nat) : List (List Dw) := (List.range (2 ^ n)).map fun (i : Nat) => agsV L (basisL n i)
def cirB (L : List Gt) (n : Nat) : Bool := (List.range (2 ^ n)).all fun (i : Nat) => agsB L (basisL n i)
def cirM (L : List Gt) (n : Nat) : List (List Dw) := if cirB L n then colsM (cirC L n) else []
theorem cirC_len (L : List Gt) (n : Nat) : (cirC L n).length = 2 ^ n := by rw [cirC, List.length_map, List.length_range]
theorem cirC_step {L : List Gt} {n j : Nat} (hj : j < 2 ^ n) : (cirC L n).take (j + 1) = (cirC L n).take j ++ [agsV L (basisL n j)] := by
  have hc : (cirC L n)[j]? = some (agsV L (basisL n j)) := by unfold cirC; rw [List.getElem?_map, List.getElem?_range hj]; rfl
  rw [List.take_add_one, hc]
  rfl
theorem basis_len {n j : Nat} (h1 : 1 ≤ n) (h4 : n ≤ 4) (hj : j < 2 ^ n) : (basisL n j).length = 2 ^ n := by
  have hj2 : (j : Int) ≤ 2 ^ (n : Int).toNat - 1 := by
    rw [Int.toNat_natCast]
    rcases (show n = 1 ∨ n = 2 ∨ n = 3 ∨ n = 4 by omega) with rfl | rfl | rfl | rfl
    all_goals (simp at hj ⊢; omega)
  unfold basisL
  rw [if_pos ⟨by omega, by omega, by omega, hj2⟩]
  rw [List.length_set, List.length_replicate, Int.toNat_natCast]
attribute [local irreducible] World.cell?
set_option maxRecDepth 100000 in
set_option maxHeartbeats 1600000 in
theorem sapGs (B C : Nat) (vg v : Value) (L : List Gt) (l : List Dw) (w : World) (hg : gtE.Sl w C vg L) (hv : DSl w B v l) (hm : l.length ≤ 1048576) (hL : L.length ≤ 1048576) :
    Calls Tryz.prog 40 #[vg, v] w fun e w' => (∃ r, e = .returned (.tuple #[r, .bool (agsB L l)]) ∧ DSl w' w.heap.size r (agsV L l)) ∧ Below w.heap.size w w' := by
  cases hst : stB l with
  | true => exact sapGs_yes B C vg v L l w hg hv hst hL
  | false =>
    have h0 : agsO L l = none := by unfold agsO; rw [hst]; rfl
    rw [show agsB L l = false by unfold agsB; rw [h0]; rfl, show agsV L l = [] by unfold agsV; rw [h0]; rfl]
    have H1 := Lib.hid (svalidSt B v l w hv hm)
    rw [hst] at H1
    clear hst h0 hg hv
    go_enter Tryz.func40, Tryz.ntmps40
    go_wp2_with fail
    refine (H1.out).mono ?_
    rintro e w1 ⟨rfl, hb1⟩
    have Hb1 := Lib.hid hb1
    have hs1 := hb1.size
    clear hb1
    go_wp2_with fail
    go_returns
    exact ⟨⟨_, rfl, DSl.nil⟩, by have := Hb1.out; go_grown⟩
set_option maxRecDepth 100000 in
set_option maxHeartbeats 3200000 in
theorem smat (C n : Nat) (vg : Value) (L : List Gt) (w : World) (hg : gtE.Sl w C vg L) (h1 : 1 ≤ n) (h4 : n ≤ 4) (hL : L.length ≤ 1048576) :
    Calls Tryz.prog 24 #[vg, .int .i64 n] w fun e w' => (∃ r, e = .returned (.tuple #[r, .bool (cirB L n)]) ∧ DSM w' w.heap.size w'.heap.size r (cirM L n)) ∧ Below w.heap.size w w' := by
  obtain ⟨i0, hi, hz0, hz1, hz2⟩ := info_parts infoDs
  obtain ⟨N, hN⟩ : ∃ N, N = 2 ^ n := ⟨_, rfl⟩
  have hN16 : 2 ≤ N ∧ N ≤ 16 := by rw [hN]; rcases (show n = 1 ∨ n = 2 ∨ n = 3 ∨ n = 4 by omega) with rfl | rfl | rfl | rfl <;> decide
  have hw : wrap64 (2 ^ n) = (N : Int) := by rw [hN]; rcases (show n = 1 ∨ n = 2 ∨ n = 3 ∨ n = 4 by omega) with rfl | rfl | rfl | rfl <;> decide +kernel
  have Hbs := Lib.hid (fun (j : Nat) W => sbasis n j W)
  have Hbl := Lib.hid (fun (j : Nat) (h : j < N) => (basis_len (n := n) (j := j) h1 h4 (by rw [← hN]; exact h)).trans hN.symm)
  have Hap := Lib.hid (fun (j : Nat) (hj : j < N) D (u : Value) W (h : DSl W D u (basisL n j)) (h' : gtE.Sl W C vg L) => sapGs D C vg u L (basisL n j) W h' h (by rw [Hbl.out j hj]; omega) hL)
  have Hlen := Lib.hid (fun (j : Nat) (hj : j < N) (h : agsB L (basisL n j) = true) => (agsV_len h).trans (Hbl.out j hj))
  have Hst := Lib.hid (fun (j : Nat) (hj : j < N) => cirC_step (L := L) (n := n) (j := j) (by rw [← hN]; exact hj))
  have hcl := (cirC_len L n).trans hN.symm
  obtain ⟨SB, hSB⟩ : ∃ SB, SB = cirB L n := ⟨_, rfl⟩
  obtain ⟨SL, hSL⟩ : ∃ SL, SL = cirM L n := ⟨_, rfl⟩
  rw [← hSB, ← hSL]
  have HSB := Lib.hid (hSB.trans (show cirB L n = (List.range N).all fun (i : Nat) => agsB L (basisL n i) by rw [hN]; rfl))
  have HSL := Lib.hid (show SL = if SB then colsM (cirC L n) else [] by rw [hSB]; exact hSL)
  have Hmem := Lib.hid (show ∀ r ∈ cirC L n, ∃ j, j < N ∧ r = agsV L (basisL n j) from fun r hr => by
    obtain ⟨k, hk, rfl⟩ := List.mem_map.1 hr
    exact ⟨k, by rw [hN]; exact List.mem_range.1 hk, rfl⟩)
  have Hvg := Lib.hid hg
  generalize cirC L n = M at *
  clear hSB hSL hN
  go_enter Tryz.func24, Tryz.ntmps24
  go_wp2_with fail
  go_loopg [6, 7] N (fun m out i wr => ∃ (j : Nat) (vs : List Value), m = N - j ∧ j ≤ N ∧ i = .int .i64 j ∧ Hid (wr.ownsRow w.heap.size 57 1 out j vs) ∧ Hid (RwS wr w.heap.size wr.heap.size vs (M.take j)) ∧ Hid (∀ k, k < j → agsB L (basisL n k) = true) ∧ Hid (Below w.heap.size w wr))
  case atStart => exact ⟨0, [], rfl, Nat.zero_le _, rfl, ownM_new rfl, RwS.nil, Lib.hid (fun k hk => absurd hk (Nat.not_lt_zero _)), Lib.hid (by go_grown)⟩
  case round =>
    obtain ⟨j, vs, rfl, hj, rfl, Hown, Hrows, Hall, Hb⟩ := hrel
    have hs := Hb.out.size
    by_cases hlt : j < N
    · have hjl : (j : Int) < N := by omega
      have Hc := Lib.hid (Hbs.out j wr)
      have Ha := Lib.hid (fun D u W => Hap.out j hlt D u W)
      have Hstp := Lib.hid (Hst.out j hlt)
      have Hln := Lib.hid (Hlen.out j hlt)
      have Hat := Lib.hid (fun (h : agsB L (basisL n j) = true) k (hk : k < j + 1) => by
        rcases Nat.lt_succ_iff_lt_or_eq.1 hk with h' | rfl
        · exact Hall.out k h'
        · exact h)
      have Hno := Lib.hid (fun (h : agsB L (basisL n j) = false) => (show ((List.range N).all fun (i : Nat) => agsB L (basisL n i)) = false from by
        rw [List.all_eq_false]; exact ⟨j, List.mem_range.2 hlt, by rw [h]; decide⟩))
      generalize agsB L (basisL n j) = t at *
      generalize agsV L (basisL n j) = r at *
      go_wp2_with fail
      refine (Hc.out).mono ?_
      rintro e w3 ⟨c, rfl, hdc, hb3⟩
      have Hg3 := Lib.hid (Hvg.out.block fun k _ hk => (hb3.block k (by omega)).trans (Hb.out.block k hk))
      have Hc3 := Lib.hid (Ha.out _ c w3 hdc Hg3.out)
      have Hb3 := Lib.hid (Hb.out.trans (hb3.mono hs))
      have Hown3 := Lib.hid (row_below Hown.out hb3)
      have Hrows3 := Lib.hid ((Hrows.out.block fun k _ _ hk => hb3.block k hk).mono (Nat.le_refl _) hb3.size)
      have hs3 := Hb3.out.size
      clear hb3 hdc Hown Hrows Hb Hc Hg3
      go_wp2_with fail
      refine (Hc3.out).mono ?_
      rintro e w4 ⟨⟨q, rfl, hdq⟩, hb4⟩
      have Hown4 := Lib.hid (row_below Hown3.out hb4)
      have Hrows4 := Lib.hid (Hrows3.out.upto.snoc hdq.upto hs3 hb4.size fun k _ _ hk => hb4.block k hk)
      have Hb4 := Lib.hid (Hb3.out.trans (hb4.mono hs3))
      have hs4 := Hb4.out.size
      obtain ⟨p, pc, rfl, -, -⟩ := hdq
      clear hb4 Hown3 Hrows3 Hb3 Hc3
      cases t with
      | false =>
        obtain rfl : SB = false := HSB.out.trans (Hno.out rfl)
        obtain rfl : SL = [] := HSL.out
        go_wp2_with fail
        go_returns
        exact ⟨⟨_, rfl, DSM.nil⟩, by have := Hb4.out; go_grown⟩
      | true =>
        rw [← Hstp.out] at Hrows4
        go_wp2_with (first
          | (at_builtin; refine wpList_append_own _ rfl _ _ 34 rfl w.heap.size 57 i0 (.slice none 0 0) 1 24 Tryz.underlying34 hi hz0 hz1 hz2 rfl (by decide) _ _ _ rfl (Hown4.out.alloc _) ⟨w4.heap.size, 0, none⟩ 1 1 [.slice p r.length pc] rfl rfl (slice_new _ _ _) (by intro u hu; simp at hu; subst hu; rfl) ?d3 ?d4 ?d5 ?_))
        case d3 => unfold maxLen; omega
        case d4 => omega
        case d5 => first | omega | (simp; omega)
        intro v' w5 hown' hgrow _
        have HB5 := Lib.hid ((Hb4.out.alloc hs4 (.cells #[.slice p r.length pc] 57)).grown hgrow (by simp; omega) (fun q hq => by have := Hown4.out.lt q hq; omega))
        have Hrows5 := Lib.hid (((Hrows4.out.block fun k _ _ hk => Below.heap_alloc _ _ _ hk).grown (Hown4.out.alloc _) hgrow).upto)
        have Hown5 := Lib.hid hown'
        clear hown' hgrow
        go_wp2_with fail
        go_roundg (N - (j + 1))
        case measure => omega
        case rel => exact ⟨j + 1, _, rfl, by omega, by go_num, Hown5.out, Hrows5, Lib.hid (Hat.out trivial), HB5⟩
    · obtain rfl : j = N := by omega
      have hall : ((List.range j).all fun (i : Nat) => agsB L (basisL n i)) = true := by
        rw [List.all_eq_true]; exact fun k hk => Hall.out k (List.mem_range.1 hk)
      obtain rfl : SB = true := HSB.out.trans hall
      obtain rfl : SL = colsM M := HSL.out
      have hown := Hown.out
      have hrows := Hrows.out
      rw [List.take_of_length_le (by omega)] at hrows
      rw [← hcl] at hown
      have hd := DSM.of_own hown hrows (Nat.le_refl _)
      have Hcs := Lib.hid (scolumns _ _ _ _ wr hd (fun r hr => by
        obtain ⟨k, hk, rfl⟩ := Hmem.out r hr
        rw [hcl, Hlen.out k hk (Hall.out k hk)]
        exact Nat.le_refl _) (by omega))
      clear hown hrows hd
      go_wp2_with fail
      refine (Hcs.out).mono ?_
      rintro e w6 ⟨q, rfl, hdq, hb6⟩
      have Hdq := Lib.hid (hdq.mono (D := w.heap.size) (E := w6.heap.size) hs (Nat.le_refl _))
      have Hb6 := Lib.hid (Hb.out.trans (hb6.mono hs))
      clear hb6 hdq
      go_wp2_with fail
      go_returns
      exact ⟨⟨_, rfl, Hdq.out⟩, Hb6.out⟩
end Go.Proofs.YtckfklpgnneodaaGreat
namespace Go.Proofs.YtckfklpgnneodaaGreat
/-- What a valid gate's qubits are. -/
theorem gtB_kinds {g : Gt} {n : Int} (h : gtB g n = true) : (1 ≤ g.k ∧ g.k ≤ 8 ∧ g.b = 0 ∧ g.c = 0) ∨ (9 ≤ g.k ∧ g.k ≤ 11 ∧ g.b ≠ g.a ∧ g.c = 0) ∨ (g.k = 12 ∧ g.b ≠ g.a ∧ g.c ≠ g.a ∧ g.c ≠ g.b) := by
  have hp := (gtB_parts h).2.1
  unfold gtB at h
  simp only [Bool.and_eq_true, decide_eq_true_eq] at h
  obtain ⟨hall, -, -⟩ := h
  rw [List.all_eq_true] at hall
  have h1 := hall 1 (List.mem_range.2 (by decide))
  have h2 := hall 2 (List.mem_range.2 (by decide))
  unfold gtOk gqs at h1 h2
  rcases (show (1 ≤ g.k ∧ g.k ≤ 8) ∨ (9 ≤ g.k ∧ g.k ≤ 11) ∨ g.k = 12 by omega) with k | k | k
  · have ha : ar g.k = 1 := if_pos k
    rw [ha, if_pos (by decide)] at h1 h2
    exact .inl ⟨k.1, k.2, of_decide_eq_true h1, of_decide_eq_true h2⟩
  · have ha : ar g.k = 2 := by rw [ar, if_neg (by omega), if_pos k]
    rw [ha, if_neg (by decide)] at h1
    rw [ha, if_pos (by decide)] at h2
    rw [Bool.and_eq_true] at h1
    exact .inr (.inl ⟨k.1, k.2, by simpa using h1.2, of_decide_eq_true h2⟩)
  · have ha : ar g.k = 3 := by rw [k]; rfl
    rw [ha, if_neg (by decide)] at h1 h2
    rw [Bool.and_eq_true] at h1 h2
    have h3 : ¬ (g.c = g.a ∨ g.c = g.b) := by simpa using h2.2
    exact .inr (.inr ⟨k, by simpa using h1.2, fun e => h3 (.inl e), fun e => h3 (.inr e)⟩)
/-- One place and a phase, or the two places of a GateH. -/
theorem goesL_form (k : Int) (A B C i : Nat) : (∃ (a : Nat) (m : Int), goesL k A B C i = [(a, dPh m)]) ∨ goesL k A B C i = [(lowN i A, isV 1), (flipN (lowN i A) A, if bitN i A then dNegV (isV 1) else isV 1)] := by
  have hp : ∀ (a : Nat) (t : Bool) (m : Int), ∃ (b : Nat) (n : Int), [(a, if t = true then dPh m else dPh 0)] = [(b, dPh n)] := fun a t m => by
    cases t
    · exact ⟨a, 0, rfl⟩
    · exact ⟨a, m, rfl⟩
  unfold goesL
  by_cases h1 : k = 1
  · rw [if_pos h1]; exact .inl (⟨_, 0, rfl⟩)
  rw [if_neg h1]
  by_cases h2 : k = 2
  · rw [if_pos h2]; exact .inl (⟨_, _, rfl⟩)
  rw [if_neg h2]
  by_cases h3 : k = 3
  · rw [if_pos h3]; exact .inl (hp _ _ _)
  rw [if_neg h3]
  by_cases h5 : k = 5
  · rw [if_pos h5]; exact .inl (hp _ _ _)
  rw [if_neg h5]
  by_cases h6 : k = 6
  · rw [if_pos h6]; exact .inl (hp _ _ _)
  rw [if_neg h6]
  by_cases h7 : k = 7
  · rw [if_pos h7]; exact .inl (hp _ _ _)
  rw [if_neg h7]
  by_cases h8 : k = 8
  · rw [if_pos h8]; exact .inl (hp _ _ _)
  rw [if_neg h8]
  by_cases h9 : k = 9
  · rw [if_pos h9]; exact .inl (⟨_, 0, rfl⟩)
  rw [if_neg h9]
  by_cases h10 : k = 10
  · rw [if_pos h10]; exact .inl (hp _ _ _)
  rw [if_neg h10]
  by_cases h12 : k = 12
  · rw [if_pos h12]; exact .inl (⟨_, 0, rfl⟩)
  rw [if_neg h12]
  by_cases h11 : k = 11
  · rw [if_pos h11]; exact .inl (⟨_, 0, rfl⟩)
  rw [if_neg h11]
  exact .inr rfl
theorem goesL_e (k : Int) (A B C i : Nat) : ∀ p ∈ goesL k A B C i, p.2.ok ∧ p.2.e.toNat ≤ 1 := by
  have hI : (isV 1).ok ∧ (isV 1).e.toNat ≤ 1 := by decide
  have hN : (dNegV (isV 1)).ok ∧ (dNegV (isV 1)).e.toNat ≤ 1 := by decide
  intro p hp
  rcases goesL_form k A B C i with ⟨a, m, e⟩ | e
  · rw [e, List.mem_singleton] at hp
    subst hp
    exact ⟨dPh_ok m, (by decide : (0 : Int).toNat ≤ 1)⟩
  · rw [e] at hp
    rcases List.mem_cons.1 hp with rfl | hp
    · exact hI
    · rw [List.mem_singleton] at hp
      subst hp
      cases bitN i A
      · exact hI
      · exact hN
theorem goesG_e {g : Gt} {N : Nat} (hg : gtB g (qc N) = true) : ∀ i, i < N → ∀ p ∈ goesG g i, p.1 < N ∧ p.2.e.toNat ≤ 1 := fun _ hi p hp => ⟨goesG_in hg hi p hp, (goesL_e _ _ _ _ _ p hp).2⟩
theorem agO_some {g : Gt} {v w : List Dw} (h : agO g v = some w) : stB v = true ∧ gtB g (qc v.length) = true ∧ apO (goesG g) 0 v (List.replicate v.length .zero) = some w := by
  unfold agO at h
  split at h
  · rename_i hb
    rw [Bool.and_eq_true] at hb
    exact ⟨hb.1, hb.2, h⟩
  · cases h
theorem agO_val {g : Gt} {v w : List Dw} (h : agO g v = some w) : w.length = v.length ∧ (∀ y ∈ w, y.ok) ∧ stB w = true := by
  obtain ⟨h1, h2, h3⟩ := agO_some h
  obtain ⟨l, o, -⟩ := ap_zero (goesG_e h2) h3
  exact ⟨l, o, stB_iff.2 ⟨o, by rw [l]; exact (stB_iff.1 h1).2⟩⟩
theorem agV_of {g : Gt} {v o : List Dw} (h : agO g v = some o) : agV g v = o := by unfold agV; rw [h]; rfl
theorem agB_of {g : Gt} {v o : List Dw} (h : agO g v = some o) : agB g v = true := by unfold agB; rw [h]; rfl
theorem qc_of {n : Int} (h : 1 ≤ n ∧ n ≤ 4) : qc (2 ^ n.toNat) = n := by
  rcases (show n = 1 ∨ n = 2 ∨ n = 3 ∨ n = 4 by omega) with rfl | rfl | rfl | rfl <;> decide
theorem vl_one : vl oneD = rootN 60 ⟨1, 0, 0, 0⟩ := rfl
theorem one_mul' (x : Zw) : Zw.mul ⟨1, 0, 0, 0⟩ x = x := by
  apply Zw.ext4 <;> simp [Zw.mul]
theorem agsF_st : ∀ {L : List Gt} {v w : List Dw}, agsF L v = some w → stB v = true → stB w = true
  | [], v, w, h, hs => by
    rw [agsF] at h
    cases h
    exact hs
  | g :: L, v, w, h, hs => by
    rw [agsF] at h
    split at h
    · rename_i hb
      cases ho : agO g v with
      | none => unfold agB at hb; rw [ho] at hb; cases hb
      | some o =>
        rw [agV_of ho] at h
        exact agsF_st h (agO_val ho).2.2
    · cases h
theorem agV_oks (g : Gt) (v : List Dw) : ∀ y ∈ agV g v, y.ok := by
  unfold agV
  cases h : agO g v with
  | none => intro y hy; cases hy
  | some o => exact (agO_val h).2.1
theorem agsV_ok' (L : List Gt) (v : List Dw) : ∀ y ∈ agsV L v, y.ok := by
  unfold agsV
  cases h : agsO L v with
  | none => intro y hy; cases hy
  | some o =>
    unfold agsO at h
    split at h
    · rename_i hs
      exact (stB_iff.1 (agsF_st h hs)).1
    · cases h
theorem agB_some {g : Gt} {l : List Dw} (h : agB g l = true) : ∃ o, agO g l = some o := Option.isSome_iff_exists.1 h
/-- Lists of gates applied. -/
theorem agsB_some {L : List Gt} {l : List Dw} (h : agsB L l = true) : ∃ o, agsO L l = some o := Option.isSome_iff_exists.1 h
end Go.Proofs.YtckfklpgnneodaaGreat
namespace Go.Proofs.YtckfklpgnneodaaGreat
def oneZ : Zw := ⟨1, 0, 0, 0⟩
theorem mul_oneZ (x : Zw) : x.mul oneZ = x := mul_one' x
theorem oneZ_mul (x : Zw) : oneZ.mul x = x := one_mul' x
/-- The coefficient from i to j of gates one behind the other, over the root's power of their number. -/
def cl (N : Nat) : List Gt → Nat → Nat → Zw
  | [], i, j => if i = j then oneZ else .zero
  | g :: L, i, j => sumZ N fun m => (cf (goesG g i) m).mul (cl N L m j)
theorem cl_app (N : Nat) : ∀ (L M : List Gt) (i j : Nat), i < N → cl N (L ++ M) i j = sumZ N fun m => (cl N L i m).mul (cl N M m j)
  | [], M, i, j, hi => by
    rw [List.nil_append, sumZ_one (fun m => (cl N [] i m).mul (cl N M m j)) hi fun m _ hm => by rw [cl, if_neg fun e => hm e.symm, zero_mul']]
    rw [cl, if_pos rfl, oneZ_mul]
  | g :: L, M, i, j, hi => by
    rw [List.cons_append, cl]
    have h1 : ∀ m, m < N → (cf (goesG g i) m).mul (cl N (L ++ M) m j) = sumZ N fun q => ((cf (goesG g i) m).mul (cl N L m q)).mul (cl N M q j) := fun m hm => by
      rw [cl_app N L M m j hm, mul_sumZ]
      exact sumZ_congr fun q _ => (mul_assoc' _ _ _).symm
    rw [sumZ_congr h1, sumZ_swap]
    refine sumZ_congr fun q _ => ?_
    rw [cl, sumZ_mul]
/-- Gates applied to a state: the values. -/
theorem ags_val : ∀ {L : List Gt} {v w : List Dw}, agsF L v = some w → stB v = true → w.length = v.length ∧ stB w = true ∧ ∀ j, j < v.length → rootN L.length (vl (w.getD j .zero)) = sumZ v.length fun i => (vl (v.getD i .zero)).mul (cl v.length L i j)
  | [], v, w, h, hs => by
    rw [agsF] at h
    cases h
    refine ⟨rfl, hs, fun j hj => ?_⟩
    rw [sumZ_one (fun i => (vl (v.getD i .zero)).mul (cl v.length [] i j)) hj fun i _ hi => by rw [cl, if_neg hi, mul_zero'], cl, if_pos rfl, mul_oneZ]
    rfl
  | g :: L, v, w, h, hs => by
    rw [agsF] at h
    split at h
    · rename_i hb
      obtain ⟨u, hu⟩ := agB_some hb
      rw [agV_of hu] at h
      obtain ⟨lu, -, su⟩ := agO_val hu
      obtain ⟨h1, h2, h3⟩ := ags_val h su
      obtain ⟨a1, a2, a3⟩ := agO_some hu
      obtain ⟨-, -, e⟩ := ap_zero (goesG_e a2) a3
      refine ⟨h1.trans lu, h2, fun j hj => ?_⟩
      rw [List.length_cons, rootN_succ, h3 j (by omega), root_sumZ, lu]
      have s1 : ∀ m, m < v.length → ((vl (u.getD m .zero)).mul (cl v.length L m j)).root = sumZ v.length fun i => (vl (v.getD i .zero)).mul ((cf (goesG g i) m).mul (cl v.length L m j)) := fun m _ => by
        rw [root_mul, e, sumZ_mul]
        exact sumZ_congr fun i _ => mul_assoc' _ _ _
      rw [sumZ_congr s1, sumZ_swap]
      refine sumZ_congr fun i _ => ?_
      rw [cl, mul_sumZ]
    · cases h
/-- The matrix M represents, over the root's power s, the coefficients C (from the column to the row). -/
def Rep (M : List (List Dw)) (N s : Nat) (C : Nat → Nat → Zw) : Prop :=
  M.length = N ∧ (∀ r ∈ M, r.length = N ∧ ∀ x ∈ r, x.ok) ∧ ∀ k, k < N → ∀ i, i < N → rootN s (vl ((M.getD k []).getD i .zero)) = rootN 60 (C i k)
theorem Rep.row {M : List (List Dw)} {N s : Nat} {C : Nat → Nat → Zw} (h : Rep M N s C) {k : Nat} (hk : k < N) : ∃ r, M[k]? = some r ∧ M.getD k [] = r ∧ r.length = N ∧ ∀ x ∈ r, x.ok := by
  have hl : k < M.length := by rw [h.1]; exact hk
  refine ⟨M[k], List.getElem?_eq_getElem hl, ?_, h.2.1 _ (List.getElem_mem hl)⟩
  rw [List.getD_eq_getElem?_getD, List.getElem?_eq_getElem hl]
  rfl
theorem Rep.eq {M P : List (List Dw)} {N s : Nat} {C D : Nat → Nat → Zw} (h : Rep M N s C) (k : Rep P N s D) (e : ∀ i, i < N → ∀ j, j < N → C i j = D i j) : M = P := by
  apply List.ext_getElem (h.1.trans k.1.symm)
  intro a ha hb
  have haN : a < N := by rw [← h.1]; exact ha
  obtain ⟨r, r1, r2, r3, r4⟩ := h.row haN
  obtain ⟨q, q1, q2, q3, q4⟩ := k.row haN
  rw [List.getElem?_eq_getElem ha] at r1
  rw [List.getElem?_eq_getElem hb] at q1
  injection r1 with r1
  injection q1 with q1
  rw [r1, q1]
  refine getD_eq (r3.trans q3.symm) fun i hi => vl_inj (getD_ok r4 i) (getD_ok q4 i) (rootN_inj (k := s) ?_)
  have hiN : i < N := by omega
  have h1 := h.2.2 a haN i hiN
  have k1 := k.2.2 a haN i hiN
  rw [r2] at h1
  rw [q2] at k1
  rw [h1, k1, e i hiN a haN]
/-- The columns of a matrix, each found, give it again. -/
theorem col_getD (L : List (List Dw)) (k i : Nat) (hi : i < L.length) : (col L k).getD i .zero = (L.getD i []).getD k .zero := by
  rw [col, List.getD_eq_getElem?_getD, List.getElem?_map, List.getD_eq_getElem?_getD (l := L), List.getElem?_eq_getElem hi]
  rfl
theorem colsM_getD (L : List (List Dw)) (k : Nat) (hk : k < L.length) : (colsM L).getD k [] = col L k := by
  rw [colsM, List.getD_eq_getElem?_getD, List.getElem?_map, List.getElem?_range hk]
  rfl
/-- The matrix of gates. -/
theorem cir_rep {L : List Gt} {n : Nat} (h1 : 1 ≤ n) (h4 : n ≤ 4) (hb : cirB L n = true) : Rep (cirM L n) (2 ^ n) L.length (cl (2 ^ n) L) := by
  have hq : qc (2 ^ n) = n := by rcases (show n = 1 ∨ n = 2 ∨ n = 3 ∨ n = 4 by omega) with rfl | rfl | rfl | rfl <;> decide
  have hq0 : 0 < qc (2 ^ n) := by rw [hq]; omega
  have hM : cirM L n = colsM (cirC L n) := if_pos hb
  have hC := cirC_len L n
  have hcol : ∀ i : Nat, i < 2 ^ n → (cirC L n).getD i [] = agsV L (basisL n i) := fun i hi => by
    rw [cirC, List.getD_eq_getElem?_getD, List.getElem?_map, List.getElem?_range hi]; rfl
  have hag : ∀ i : Nat, i < 2 ^ n → ∃ w, agsF L (basisL n i) = some w ∧ agsV L (basisL n i) = w ∧ stB (basisL n i) = true ∧ (basisL n i).length = 2 ^ n := fun i hi => by
    have h := List.all_eq_true.1 hb i (List.mem_range.2 hi)
    obtain ⟨w, hw⟩ := agsB_some h
    obtain ⟨s1, s2⟩ := basis_st hq0 hi
    rw [hq] at s1 s2
    refine ⟨w, ?_, by unfold agsV; rw [hw]; rfl, s1, s2⟩
    unfold agsO at hw
    rwa [if_pos s1] at hw
  rw [hM]
  refine ⟨by rw [colsM_len, hC], fun r hr => ?_, fun k hk i hi => ?_⟩
  · obtain ⟨k, hk, rfl⟩ := List.mem_map.1 hr
    refine ⟨by rw [col_len, hC], fun x hx => ?_⟩
    obtain ⟨q, hq', rfl⟩ := List.mem_map.1 hx
    obtain ⟨i, hi, rfl⟩ := List.mem_map.1 hq'
    exact getD_ok (agsV_ok' L _) k
  · rw [colsM_getD _ _ (by rw [hC]; exact hk), col_getD _ _ _ (by rw [hC]; exact hi), hcol i hi]
    obtain ⟨w, hw, hv, s1, s2⟩ := hag i hi
    obtain ⟨-, -, e⟩ := ags_val hw s1
    rw [s2] at e
    rw [hv, e k hk]
    have hbe := basis_eq hq0 hi
    rw [hq] at hbe
    rw [sumZ_one (fun a => (vl ((basisL n i).getD a .zero)).mul (cl (2 ^ n) L a k)) hi fun a _ ha => by
      rw [hbe, getD_set _ _ _ _ (by rw [List.length_replicate]; exact hi), if_neg (fun x => ha x.symm), rep_getD, vl_zero, zero_mul']]
    rw [hbe, getD_set _ _ _ _ (by rw [List.length_replicate]; exact hi), if_pos rfl, vl_one, ← rootN_mul, one_mul']
end Go.Proofs.YtckfklpgnneodaaGreat
namespace Go.Proofs.YtckfklpgnneodaaGreat
open Go.RowKit
def Ok (l : List Dw) : Prop := ∀ x ∈ l, x.ok
theorem Ok.set {l : List Dw} (h : Ok l) (j : Nat) {x : Dw} (hx : x.ok) : Ok (l.set j x) := fun y hy => by
  rcases List.mem_or_eq_of_mem_set hy with hy | rfl
  · exact h y hy
  · exact hx
theorem Ok.eb {l : List Dw} (h : Ok l) : Eb l := fun x hx => by
  obtain ⟨_, h0, h1, _⟩ := h x hx
  omega
/-- A circuit's matrix, and whether there is one. -/
def ccB (n : Int) (L : List Gt) : Bool := ciB n L && cirB L n.toNat
def ccM (n : Int) (L : List Gt) : List (List Dw) := if ciB n L then cirM L n.toNat else []
attribute [local irreducible] World.cell?
set_option maxRecDepth 100000 in
set_option maxHeartbeats 3200000 in
theorem scirc (B : Nat) (n : Int) (v : Value) (l : List Gt) (w : World) (hv : gtE.Sl w B v l) (hm : l.length ≤ 1048576) :
    Calls Tryz.prog 11 #[.agg #[.int .i64 n, v]] w fun e w' => (∃ r, e = .returned (.tuple #[r, .bool (ccB n l)]) ∧ DSM w' w.heap.size w'.heap.size r (ccM n l)) ∧ Below w.heap.size w w' := by
  have Hv := Lib.hid (hv.block (w' := w.alloc (.cells #[.int .i64 n, v] 26)) fun k _ hk => Below.heap_alloc _ _ _ hk)
  have Hs := Lib.hid (svalidC B n v l _ Hv.out hm)
  have HC := Lib.hid (heap_alloc_new w (.cells #[.int .i64 n, v] 26))
  have Hb0 := Lib.hid (show Below w.heap.size w (w.alloc (.cells #[.int .i64 n, v] 26)) by go_grown)
  obtain ⟨c0, c1⟩ := blk_cells2 HC.out
  have hCl := lt_of_block HC.out
  obtain ⟨a, cap, rfl, hcap, hr⟩ := hv
  clear hr
  cases hok : ciB n l with
  | false =>
    rw [show ccB n l = false by unfold ccB; rw [hok]; rfl, show ccM n l = [] by unfold ccM; rw [hok]; rfl]
    rw [hok] at Hs
    clear hok
    go_enter Tryz.func11, Tryz.ntmps11
    go_wp2_with fail
    refine (Hs.out).mono ?_
    rintro e w1 ⟨rfl, hb1⟩
    have Hb1 := Lib.hid (Hb0.out.trans (hb1.mono (by omega)))
    have hs1 := hb1.size
    clear hb1
    go_wp2_with fail
    go_returns
    exact ⟨⟨_, rfl, DSM.nil⟩, by have := Hb1.out; go_grown⟩
  | true =>
    have h4 : 1 ≤ n ∧ n ≤ 4 := by
      unfold ciB at hok
      simp only [Bool.and_eq_true, decide_eq_true_eq] at hok
      exact hok.2.1
    rw [show ccB n l = cirB l n.toNat by unfold ccB; rw [hok]; rfl, show ccM n l = cirM l n.toNat by unfold ccM; rw [hok]; rfl]
    rw [hok] at Hs
    clear hok
    obtain ⟨m, rfl⟩ : ∃ m : Nat, n = m := ⟨n.toNat, by omega⟩
    rw [Int.toNat_natCast]
    have Hm := Lib.hid (fun W h => smat B m (.slice a l.length cap) l W h (by omega) (by omega) hm)
    generalize cirB l m = SB at *
    generalize cirM l m = SM at *
    clear h4
    go_enter Tryz.func11, Tryz.ntmps11
    go_wp2_with fail
    refine (Hs.out).mono ?_
    rintro e w1 ⟨rfl, hb1⟩
    have hs1 := hb1.size
    have HC1 := Lib.hid (below_blk hb1 hCl HC.out)
    have Hv1 := Lib.hid (Hv.out.block (w' := w1) fun k _ hk => hb1.block k hk)
    have Hc := Lib.hid (Hm.out _ Hv1.out)
    have Hb1 := Lib.hid (Hb0.out.trans (hb1.mono (by omega)))
    clear hb1 c0 c1
    obtain ⟨c0, c1⟩ := blk_cells2 HC1.out
    have hCl1 := lt_of_block HC1.out
    go_wp2_with fail
    refine (Hc.out).mono ?_
    rintro e w2 ⟨⟨r, rfl, hd⟩, hb2⟩
    have hw1 := Hb1.out.size
    have Hd := Lib.hid (hd.mono (D := w.heap.size) (E := w2.heap.size) hw1 (Nat.le_refl _))
    have Hb2 := Lib.hid (Hb1.out.trans (hb2.mono hw1))
    clear hd hb2
    go_wp2_with fail
    go_returns
    exact ⟨⟨_, rfl, Hd.out⟩, Hb2.out⟩
end Go.Proofs.YtckfklpgnneodaaGreat
