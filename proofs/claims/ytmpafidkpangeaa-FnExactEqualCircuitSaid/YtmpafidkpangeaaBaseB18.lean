/- BaseB18: several of our texts in one: AgV MtKd MtKh MtKg MtKe MtKf MtK. -/
import Derived.Test.YtmpafidkpangeaaBaseB11
import Derived.Test.YtmpafidkpangeaaBaseB17
import Derived.Test.YtmpafidkpangeaaBaseB06
import Derived.Test.YtmpafidkpangeaaMtKa
import Derived.Test.YtmpafidkpangeaaBaseB22
import Derived.Test.YtmpafidkpangeaaBaseB21
namespace Go.Proofs.Ytmpafidkpangeaa
theorem dAddB_ok {x y : Dw} (h : dAddB x y = true) : x.ok ∧ y.ok := ⟨(dAddB_iff.1 h).1, (dAddB_iff.1 h).2.1⟩
theorem dMulB_ok {x y : Dw} (h : dMulB x y = true) : x.ok ∧ y.ok := ⟨(dMulB_iff.1 h).1, (dMulB_iff.1 h).2.1⟩
theorem mul_assoc' (x y z : Zw) : (x.mul y).mul z = x.mul (y.mul z) := by
  apply Zw.ext4 <;> simp only [Zw.mul] <;> grind
theorem add_assoc' (x y z : Zw) : (x.add y).add z = x.add (y.add z) := by
  apply Zw.ext4 <;> simp only [Zw.add] <;> omega
theorem add_zero' (x : Zw) : x.add .zero = x := by
  apply Zw.ext4 <;> simp [Zw.add, Zw.zero]
theorem zero_add' (x : Zw) : Zw.zero.add x = x := by
  apply Zw.ext4 <;> simp [Zw.add, Zw.zero]
theorem zero_mul' (x : Zw) : Zw.zero.mul x = .zero := by
  apply Zw.ext4 <;> simp [Zw.mul, Zw.zero]
theorem mul_zero' (x : Zw) : x.mul .zero = .zero := by
  apply Zw.ext4 <;> simp [Zw.mul, Zw.zero]
theorem mul_add' (x y z : Zw) : x.mul (y.add z) = (x.mul y).add (x.mul z) := by
  rw [← mul_comm', add_mul', mul_comm' y, mul_comm' z]
theorem add_left' (x y z : Zw) : x.add (y.add z) = y.add (x.add z) := by
  rw [← add_assoc', add_comm' y x, add_assoc']
theorem rootN_z : ∀ k, rootN k .zero = .zero
  | 0 => rfl
  | k + 1 => rootN_z k
/-- The numerator over the sixtieth power of the root. -/
def vl (x : Dw) : Zw := rootN (60 - x.e.toNat) x.n
theorem vl_zero : vl .zero = .zero := rootN_z _
theorem vl_inj {x y : Dw} (hx : x.ok) (hy : y.ok) (h : vl x = vl y) : x = y := by
  refine unique hx hy ?_
  have hx1 := hx.2.2.1
  have hy1 := hy.2.2.1
  have h2 : rootN (x.e.toNat + y.e.toNat) (vl x) = rootN (x.e.toNat + y.e.toNat) (vl y) := by rw [h]
  unfold vl at h2
  rw [← rootN_add, ← rootN_add, show 60 - x.e.toNat + (x.e.toNat + y.e.toNat) = y.e.toNat + 60 by omega, show 60 - y.e.toNat + (x.e.toNat + y.e.toNat) = x.e.toNat + 60 by omega, rootN_add, rootN_add] at h2
  exact rootN_inj h2
theorem vl_add {x y : Dw} (h : dAddB x y = true) : vl (dAddV x y) = (vl x).add (vl y) := by
  have ha := adds_of h
  have hx := (dAddB_ok h).1.2.2.1
  have hy := (dAddB_ok h).2.2.2.1
  have hs := (dAddV_ok h).2.2.1
  generalize dAddV x y = s at *
  unfold Adds at ha
  apply rootN_inj (k := x.e.toNat + y.e.toNat + s.e.toNat)
  unfold vl
  rw [rootN_addZ, ← rootN_add, ← rootN_add, ← rootN_add, show 60 - s.e.toNat + (x.e.toNat + y.e.toNat + s.e.toNat) = (x.e.toNat + y.e.toNat) + 60 by omega, rootN_add, ha, ← rootN_add, rootN_addZ, ← rootN_add, ← rootN_add]
  congr 1 <;> congr 1 <;> omega
theorem vl_mul {x y : Dw} (h : dMulB x y = true) : rootN 60 (vl (dMulV x y)) = (vl x).mul (vl y) := by
  have ha := muls_of h
  have hx := (dMulB_ok h).1.2.2.1
  have hy := (dMulB_ok h).2.2.2.1
  have hs := (dMulV_ok h).2.2.1
  generalize dMulV x y = s at *
  unfold Muls at ha
  apply rootN_inj (k := x.e.toNat + y.e.toNat + s.e.toNat)
  unfold vl
  rw [← rootN_mul2, ← rootN_add, ← rootN_add, ← rootN_add, show 60 - s.e.toNat + (60 + (x.e.toNat + y.e.toNat + s.e.toNat)) = (x.e.toNat + y.e.toNat) + 120 by omega, rootN_add, ha, ← rootN_add]
  congr 1; omega
/-- A factor over the root. -/
def wt (b : Dw) : Zw := rootN (1 - b.e.toNat) b.n
theorem vl_wt {b : Dw} (h : b.e.toNat ≤ 1) : vl b = rootN 59 (wt b) := by
  unfold vl wt
  rw [← rootN_add]
  congr 1; omega
theorem vl_mulW {x b : Dw} (h : dMulB x b = true) (hb : b.e.toNat ≤ 1) : (vl (dMulV x b)).root = (vl x).mul (wt b) := by
  have h1 := vl_mul h
  rw [vl_wt hb, mul_comm' (rootN 59 (wt b)), ← rootN_mul, mul_comm' (vl x), show (60 : Nat) = 1 + 59 from rfl, rootN_add] at h1
  exact rootN_inj h1
/-- A sum of n numbers. -/
def sumZ : Nat → (Nat → Zw) → Zw
  | 0, _ => .zero
  | n + 1, f => (sumZ n f).add (f n)
theorem sumZ_congr {n : Nat} {f g : Nat → Zw} (h : ∀ i, i < n → f i = g i) : sumZ n f = sumZ n g := by
  induction n with
  | zero => rfl
  | succ n ih => rw [sumZ, sumZ, ih fun i hi => h i (by omega), h n (by omega)]
theorem sumZ_zero (n : Nat) : sumZ n (fun _ => .zero) = .zero := by
  induction n with
  | zero => rfl
  | succ n ih => rw [sumZ, ih, add_zero']
theorem sumZ_add (n : Nat) (f g : Nat → Zw) : sumZ n (fun i => (f i).add (g i)) = (sumZ n f).add (sumZ n g) := by
  induction n with
  | zero => exact (add_zero' _).symm
  | succ n ih => rw [sumZ, sumZ, sumZ, ih, add_assoc', add_assoc', add_left' (sumZ n g)]
theorem sumZ_mul (n : Nat) (f : Nat → Zw) (z : Zw) : (sumZ n f).mul z = sumZ n (fun i => (f i).mul z) := by
  induction n with
  | zero => exact zero_mul' z
  | succ n ih => rw [sumZ, sumZ, add_mul', ih]
theorem mul_sumZ (n : Nat) (f : Nat → Zw) (z : Zw) : z.mul (sumZ n f) = sumZ n (fun i => z.mul (f i)) := by
  rw [← mul_comm', sumZ_mul]
  exact sumZ_congr fun i _ => mul_comm' _ _
theorem root_sumZ (n : Nat) (f : Nat → Zw) : (sumZ n f).root = sumZ n (fun i => (f i).root) := by
  induction n with
  | zero => rfl
  | succ n ih => rw [sumZ, sumZ, root_add, ih]
theorem rootN_sumZ (k n : Nat) (f : Nat → Zw) : rootN k (sumZ n f) = sumZ n (fun i => rootN k (f i)) := by
  induction n with
  | zero => exact rootN_z k
  | succ n ih => rw [sumZ, sumZ, rootN_addZ, ih]
theorem sumZ_swap (n m : Nat) (f : Nat → Nat → Zw) : sumZ n (fun i => sumZ m (fun j => f i j)) = sumZ m (fun j => sumZ n (fun i => f i j)) := by
  induction n with
  | zero => exact (sumZ_zero m).symm
  | succ n ih =>
    rw [sumZ, ih, ← sumZ_add]
    rfl
/-- One term alone. -/
theorem sumZ_one {n k : Nat} (f : Nat → Zw) (hk : k < n) (h : ∀ i, i < n → i ≠ k → f i = .zero) : sumZ n f = f k := by
  induction n with
  | zero => omega
  | succ n ih =>
    rw [sumZ]
    by_cases e : k = n
    · subst e
      rw [sumZ_congr (g := fun _ => .zero) fun i hi => h i (by omega) (by omega), sumZ_zero, zero_add']
    · rw [ih (by omega) fun i hi => h i (by omega), h n (by omega) (by omega), add_zero']
/-- What a sum loses at its head. -/
theorem sumZ_head (n : Nat) (f : Nat → Zw) : sumZ (n + 1) f = (f 0).add (sumZ n fun i => f (i + 1)) := by
  induction n with
  | zero => rw [sumZ, sumZ, sumZ, zero_add', add_zero']
  | succ n ih => rw [sumZ, ih, sumZ, add_assoc']
/-- What a list of places gives to place j. -/
def cf : List (Nat × Dw) → Nat → Zw
  | [], _ => .zero
  | p :: r, j => if p.1 = j then (wt p.2).add (cf r j) else cf r j
/-- The same list, each place with its own number. -/
def cfs : List (Nat × Dw) → (Nat → Zw) → Zw
  | [], _ => .zero
  | p :: r, f => ((wt p.2).mul (f p.1)).add (cfs r f)
theorem cf_sum {N : Nat} (f : Nat → Zw) : ∀ (L : List (Nat × Dw)), (∀ p ∈ L, p.1 < N) → sumZ N (fun j => (cf L j).mul (f j)) = cfs L f
  | [], _ => by
    rw [cfs, ← sumZ_zero N]
    exact sumZ_congr fun i _ => zero_mul' _
  | p :: r, h => by
    have ih := cf_sum f r fun q hq => h q (List.mem_cons_of_mem _ hq)
    have h1 : sumZ N (fun j => if p.1 = j then (wt p.2).mul (f j) else .zero) = (wt p.2).mul (f p.1) := by
      rw [sumZ_one _ (h p (List.mem_cons_self ..)) fun i _ hi => if_neg fun e => hi e.symm, if_pos rfl]
    rw [cfs, ← ih, ← h1, ← sumZ_add]
    refine sumZ_congr fun j _ => ?_
    rw [cf]
    by_cases e : p.1 = j
    · rw [if_pos e, if_pos e, add_mul']
    · rw [if_neg e, if_neg e, zero_add']
theorem getD_set (o : List Dw) (k j : Nat) (z : Dw) (hk : k < o.length) : (o.set k z).getD j .zero = if k = j then z else o.getD j .zero := by
  rw [List.getD_eq_getElem?_getD, List.getElem?_set, List.getD_eq_getElem?_getD]
  by_cases e : k = j
  · rw [if_pos e, if_pos e, if_pos hk]; rfl
  · rw [if_neg e, if_neg e]
theorem set_ok' {o : List Dw} {p : Nat} {z : Dw} (h : ∀ y ∈ o, y.ok) (hz : z.ok) : ∀ y ∈ o.set p z, y.ok := fun y hy => by
  rcases List.mem_or_eq_of_mem_set hy with h1 | rfl
  · exact h y h1
  · exact hz
/-- An amplitude sent: what is added at each place. -/
theorem send_val {x : Dw} : ∀ {L : List (Nat × Dw)} {o o' : List Dw}, sendO x L o = some o' → (∀ y ∈ o, y.ok) → (∀ p ∈ L, p.1 < o.length ∧ p.2.e.toNat ≤ 1) →
    o'.length = o.length ∧ (∀ y ∈ o', y.ok) ∧ ∀ j, (vl (o'.getD j .zero)).root = ((vl (o.getD j .zero)).root).add ((vl x).mul (cf L j))
  | [], o, o', h, ho, _ => by
    rw [sendO] at h
    cases h
    exact ⟨rfl, ho, fun j => by rw [cf, mul_zero', add_zero']⟩
  | p :: r, o, o', h, ho, hL => by
    obtain ⟨hp1, hp2⟩ := hL p (List.mem_cons_self ..)
    rw [sendO] at h
    split at h
    · rename_i hb
      rw [Bool.and_eq_true] at hb
      obtain ⟨h1, h2, h3⟩ := send_val h (set_ok' ho (dAddV_ok hb.2)) fun q hq => by
        rw [List.length_set]; exact hL q (List.mem_cons_of_mem _ hq)
      refine ⟨by rw [h1, List.length_set], h2, fun j => ?_⟩
      rw [h3, getD_set _ _ _ _ hp1, cf]
      by_cases e : p.1 = j
      · subst e
        rw [if_pos rfl, if_pos rfl, vl_add hb.2, root_add, vl_mulW hb.1 hp2, mul_add', add_assoc']
      · rw [if_neg e, if_neg e]
    · cases h
/-- All amplitudes sent. -/
theorem ap_val {G : Nat → List (Nat × Dw)} {N : Nat} (hG : ∀ i, i < N → ∀ p ∈ G i, p.1 < N ∧ p.2.e.toNat ≤ 1) : ∀ {v : List Dw} {i : Nat} {o o' : List Dw}, apO G i v o = some o' → i + v.length ≤ N → o.length = N → (∀ y ∈ o, y.ok) →
    o'.length = N ∧ (∀ y ∈ o', y.ok) ∧ ∀ j, (vl (o'.getD j .zero)).root = ((vl (o.getD j .zero)).root).add (sumZ v.length fun a => (vl (v.getD a .zero)).mul (cf (G (i + a)) j))
  | [], i, o, o', h, _, hl, ho => by
    rw [apO] at h
    cases h
    exact ⟨hl, ho, fun j => by rw [List.length_nil, sumZ, add_zero']⟩
  | x :: r, i, o, o', h, hi, hl, ho => by
    rw [List.length_cons] at hi
    have hs : ∀ j, sumZ (r.length + 1) (fun a => (vl ((x :: r).getD a .zero)).mul (cf (G (i + a)) j)) = ((vl x).mul (cf (G i) j)).add (sumZ r.length fun a => (vl (r.getD a .zero)).mul (cf (G (i + 1 + a)) j)) := fun j => by
      rw [sumZ_head]
      congr 1
      refine sumZ_congr fun a _ => ?_
      rw [show i + (a + 1) = i + 1 + a by omega]
      rfl
    rw [apO] at h
    split at h
    · rename_i hx
      obtain ⟨h1, h2, h3⟩ := ap_val hG h (by omega) hl ho
      refine ⟨h1, h2, fun j => ?_⟩
      rw [List.length_cons, hs, h3, hx, vl_zero, zero_mul', zero_add']
    · split at h
      · rename_i o1 ho1
        obtain ⟨k1, k2, k3⟩ := send_val ho1 ho fun p hp => by rw [hl]; exact hG i (by omega) p hp
        obtain ⟨h1, h2, h3⟩ := ap_val hG h (by omega) (k1.trans hl) k2
        refine ⟨h1, h2, fun j => ?_⟩
        rw [List.length_cons, hs, h3, k3, add_assoc']
      · cases h
theorem rep_ok' {n : Nat} : ∀ y ∈ List.replicate n Dw.zero, y.ok := fun y hy => by rw [List.eq_of_mem_replicate hy]; exact zero_ok
theorem rep_getD (n j : Nat) : (List.replicate n Dw.zero).getD j .zero = .zero := by
  rw [List.getD_eq_getElem?_getD, List.getElem?_replicate]
  split <;> rfl
/-- All amplitudes sent, from nothing on. -/
theorem ap_zero {G : Nat → List (Nat × Dw)} {v o : List Dw} (hG : ∀ i, i < v.length → ∀ p ∈ G i, p.1 < v.length ∧ p.2.e.toNat ≤ 1) (h : apO G 0 v (List.replicate v.length .zero) = some o) :
    o.length = v.length ∧ (∀ y ∈ o, y.ok) ∧ ∀ j, (vl (o.getD j .zero)).root = sumZ v.length fun a => (vl (v.getD a .zero)).mul (cf (G a) j) := by
  obtain ⟨h1, h2, h3⟩ := ap_val hG h (by omega) List.length_replicate rep_ok'
  refine ⟨h1, h2, fun j => ?_⟩
  rw [h3, rep_getD, vl_zero, show Zw.zero.root = .zero from rfl, zero_add']
  exact sumZ_congr fun a _ => by rw [Nat.zero_add]
theorem getD_eq {u v : List Dw} (hl : u.length = v.length) (h : ∀ j, j < v.length → u.getD j .zero = v.getD j .zero) : u = v := by
  apply List.ext_getElem hl
  intro j h1 h2
  have := h j h2
  rwa [List.getD_eq_getElem?_getD, List.getD_eq_getElem?_getD, List.getElem?_eq_getElem h1, List.getElem?_eq_getElem h2] at this
theorem getD_ok {v : List Dw} (h : ∀ y ∈ v, y.ok) (j : Nat) : (v.getD j .zero).ok := by
  rw [List.getD_eq_getElem?_getD]
  cases e : v[j]? with
  | none => exact zero_ok
  | some y => exact h y (List.mem_of_getElem? e)
def twoZ : Zw := ⟨2, 0, 0, 0⟩
theorem mul_two (x : Zw) : x.mul twoZ = x.root.root := by
  apply Zw.ext4 <;> simp only [Zw.mul, Zw.root, twoZ] <;> omega
/-- Two maps one behind the other, of which the second undoes the first. -/
theorem ap_back {G H : Nat → List (Nat × Dw)} {v o b : List Dw} (hv : ∀ y ∈ v, y.ok) (hG : ∀ i, i < v.length → ∀ p ∈ G i, p.1 < v.length ∧ p.2.e.toNat ≤ 1) (hH : ∀ i, i < v.length → ∀ p ∈ H i, p.1 < v.length ∧ p.2.e.toNat ≤ 1)
    (hid : ∀ i, i < v.length → ∀ k, k < v.length → cfs (G i) (fun j => cf (H j) k) = if i = k then twoZ else .zero)
    (h1 : apO G 0 v (List.replicate v.length .zero) = some o) (h2 : apO H 0 o (List.replicate o.length .zero) = some b) : b = v := by
  obtain ⟨l1, o1, e1⟩ := ap_zero hG h1
  obtain ⟨l2, o2, e2⟩ := ap_zero (by rw [l1]; exact hH) h2
  refine getD_eq (l2.trans l1) fun k hk => vl_inj (getD_ok o2 k) (getD_ok hv k) (root_inj (root_inj ?_))
  rw [e2, root_sumZ, l1]
  have s1 : sumZ v.length (fun j => ((vl (o.getD j .zero)).mul (cf (H j) k)).root) = sumZ v.length fun j => sumZ v.length fun i => (vl (v.getD i .zero)).mul ((cf (G i) j).mul (cf (H j) k)) := sumZ_congr fun j _ => by
    rw [root_mul, e1, sumZ_mul]
    exact sumZ_congr fun i _ => mul_assoc' _ _ _
  have s2 : ∀ i, i < v.length → sumZ v.length (fun j => (vl (v.getD i .zero)).mul ((cf (G i) j).mul (cf (H j) k))) = (vl (v.getD i .zero)).mul (if i = k then twoZ else .zero) := fun i hi => by
    rw [← mul_sumZ, cf_sum (fun j => cf (H j) k) (G i) (fun p hp => (hG i hi p hp).1), hid i hi k hk]
  rw [s1, sumZ_swap, sumZ_congr s2, sumZ_one _ hk fun i _ hi => by rw [if_neg hi, mul_zero'], if_pos rfl, mul_two]
/-- A sum of products. -/
theorem mrow_val : ∀ {l : List (Dw × Dw)} {s t : Dw}, mrow s l = some t → s.ok → t.ok ∧ rootN 60 (vl t) = (rootN 60 (vl s)).add (sumZ l.length fun a => (vl (l.getD a (.zero, .zero)).1).mul (vl (l.getD a (.zero, .zero)).2))
  | [], s, t, h, hs => by
    rw [mrow] at h
    cases h
    exact ⟨hs, by rw [List.length_nil, sumZ, add_zero']⟩
  | p :: r, s, t, h, hs => by
    have hh : sumZ (r.length + 1) (fun a => (vl ((p :: r).getD a (.zero, .zero)).1).mul (vl ((p :: r).getD a (.zero, .zero)).2)) = ((vl p.1).mul (vl p.2)).add (sumZ r.length fun a => (vl (r.getD a (.zero, .zero)).1).mul (vl (r.getD a (.zero, .zero)).2)) := by
      rw [sumZ_head]
      rfl
    rw [mrow] at h
    split at h
    · rename_i hp
      obtain ⟨h1, h2⟩ := mrow_val h hs
      refine ⟨h1, ?_⟩
      have hz : (vl p.1).mul (vl p.2) = .zero := by
        rcases hp with e | e
        · rw [e, vl_zero, zero_mul']
        · rw [e, vl_zero, mul_zero']
      rw [List.length_cons, hh, hz, zero_add', h2]
    · split at h
      · rename_i hb
        rw [Bool.and_eq_true] at hb
        obtain ⟨h1, h2⟩ := mrow_val h (dAddV_ok hb.2)
        refine ⟨h1, ?_⟩
        rw [List.length_cons, hh, h2, vl_add hb.2, rootN_addZ, vl_mul hb.1, add_assoc']
      · cases h
end Go.Proofs.Ytmpafidkpangeaa
namespace Go.Proofs.Ytmpafidkpangeaa
open Go.RowKit
theorem mt_rows {M : List (List Dw)} (h : mtB M = true) : ∀ r ∈ M, r.length = M.length ∧ ∀ x ∈ r, x.ok := fun r hr => ⟨((mtB_iff.1 h).2 r hr).1, (stB_iff.1 ((mtB_iff.1 h).2 r hr).2).1⟩
theorem col_st {M : List (List Dw)} (h : mtB M = true) {k : Nat} (hk : k < M.length) : stB (col M k) = true := by
  refine stB_iff.2 ⟨fun x hx => ?_, by rw [col_len]; exact mtB_qc h⟩
  obtain ⟨r, hr, rfl⟩ := List.mem_map.1 hx
  obtain ⟨hl, ho⟩ := mt_rows h r hr
  have : k < r.length := by omega
  rw [List.getD_eq_getElem?_getD, List.getElem?_eq_getElem this]
  exact ho _ (List.getElem_mem _)
attribute [local irreducible] World.cell?
end Go.Proofs.Ytmpafidkpangeaa
namespace Go.Proofs.Ytmpafidkpangeaa
open Go.RowKit
attribute [local irreducible] World.cell?
theorem mix_at {X Y : List (List Dw)} {j : Nat} (hX : j < X.length) {r : List Dw} (hr : Y[j]? = some r) : (X.take j ++ Y.drop j)[j]? = some r := by
  rw [List.getElem?_append_right (by simp; omega), List.getElem?_drop]
  rw [show j + (j - (X.take j).length) = j by simp; omega]
  exact hr
theorem mix_set {X Y : List (List Dw)} {j : Nat} (hl : X.length = Y.length) {r : List Dw} (hr : X[j]? = some r) : (X.take j ++ Y.drop j).set j r = X.take (j + 1) ++ Y.drop (j + 1) := by
  have h : j < X.length := by
    rcases Nat.lt_or_ge j X.length with h' | h'
    · exact h'
    · rw [List.getElem?_eq_none h'] at hr; cases hr
  have e : Y.drop j = Y[j]'(by omega) :: Y.drop (j + 1) := (List.getElem_cons_drop ..).symm
  rw [List.set_append_right _ _ (by simp; omega), show j - (X.take j).length = 0 by simp; omega, e, List.set_cons_zero, List.take_add_one, hr, List.append_assoc]
  rfl
def mapX (n : Nat) (r : Nat → List Dw) : List (List Dw) := (List.range n).map r
theorem mapX_len (n : Nat) (r : Nat → List Dw) : (mapX n r).length = n := by rw [mapX, List.length_map, List.length_range]
theorem mapX_get {n : Nat} {r : Nat → List Dw} {j : Nat} (hj : j < n) : (mapX n r)[j]? = some (r j) := by
  rw [mapX, List.getElem?_map, List.getElem?_range hj]; rfl
set_option maxRecDepth 100000 in
set_option maxHeartbeats 6400000 in
theorem imapC (F : Nat) (C : Array Value) (eF : ∀ args w, (callFunc F args).run Try.prog w = .ok (.enter F args) w) (R S : Nat) (u : Value) (B : List (List Dw)) (t : Nat → Bool) (r : Nat → List Dw) (w : World) (hu : DSM w R S u B) (hk : ∀ r ∈ B, B.length ≤ r.length) (hn : B.length ≤ 1048576) (hr : ∀ k, k < B.length → t k = true → (r k).length = B.length)
    (hF : ∀ k, k < B.length → ∀ D c W, Below w.heap.size w W → DSl W D c (col B k) → Calls Try.prog F (#[c] ++ C) W fun e w' => (∃ q, e = .returned (.tuple #[q, .bool (t k)]) ∧ DSl w' W.heap.size q (r k)) ∧ Below W.heap.size W w') :
    Calls Try.prog 61 #[u, .func (.func F) #[] C] w fun e w' => (∃ v, e = .returned (.tuple #[v, .bool ((List.range B.length).all t)]) ∧ DSM w' w.heap.size w'.heap.size v (if (List.range B.length).all t = true then colsM (mapX B.length r) else [])) ∧ Below w.heap.size w w' := by
  have H2 := Lib.hid (fun W (h : DSM W R S u B) => itrans R S u B W h hk hn)
  have HF := Lib.hid hF
  have Hu := Lib.hid hu
  obtain ⟨SB, hSB⟩ : ∃ SB, SB = (List.range B.length).all t := ⟨_, rfl⟩
  obtain ⟨SL, hSL⟩ : ∃ SL, SL = if SB = true then colsM (mapX B.length r) else [] := ⟨_, rfl⟩
  rw [← hSB, ← hSL]
  have HSB := Lib.hid hSB
  have HSL := Lib.hid hSL
  have Hlen := Lib.hid hr
  have HX := Lib.hid (fun (j : Nat) (hj : j < B.length) => mapX_get (r := r) hj)
  have HY := Lib.hid (fun (j : Nat) (hj : j < B.length) => colsM_get (L := B) hj)
  have HXl := Lib.hid (mapX_len B.length r)
  have HYl := Lib.hid (colsM_len B)
  have HT := Lib.hid (fun (D E : Nat) (c : Value) W (h : DSM W D E c (mapX B.length r)) (hr : ∀ x ∈ mapX B.length r, (mapX B.length r).length ≤ x.length) => itrans D E c (mapX B.length r) W h hr (by rw [mapX_len]; exact hn))
  have HM := Lib.hid (fun x (h : x ∈ mapX B.length r) => List.mem_map.1 h)
  generalize mapX B.length r = X at *
  generalize colsM B = Y at *
  clear hSB hSL hF hr hk
  obtain ⟨a', cap', rfl, hcap', -⟩ := hu
  go_enter Try.func61, Try.ntmps61
  go_wp2_with fail
  refine (H2.out _ Hu.out).mono ?_
  rintro e w2 ⟨c, rfl, hdc, hb2⟩
  have Hb2 := Lib.hid hb2
  have hs2 := Hb2.out.size
  obtain ⟨ca, cc, rfl, hcc, hcr⟩ := hdc
  have Hcr := Lib.hid hcr
  rw [HYl.out] at hcc ⊢
  clear hb2 hcr H2
  go_wp2_with fail
  go_loopg [15] B.length (fun n i wr => ∃ j : Nat, n = B.length - j ∧ j ≤ B.length ∧ i = .int .i64 j ∧ Hid (0 < B.length → ∃ g, ca = some ⟨g, 0, none⟩ ∧ w.heap.size ≤ g ∧ MRow wr w.heap.size wr.heap.size g (X.take j ++ Y.drop j)) ∧ Hid (∀ k, k < j → t k = true) ∧ Hid (Below w.heap.size w wr) ∧ w2.heap.size ≤ wr.heap.size)
  case atStart => exact ⟨0, rfl, Nat.zero_le _, rfl, Lib.hid (fun h0 => by obtain ⟨g, e, h1, h2, h3⟩ := Hcr.out (by rw [HYl.out]; exact h0); exact ⟨g, e, h1, by simpa using h3⟩), Lib.hid (fun k hk => absurd hk (Nat.not_lt_zero _)), Hb2, Nat.le_refl _⟩
  case round =>
    obtain ⟨j, rfl, hj, rfl, Hrow, Hall, Hb, hsz⟩ := hrel
    have hs := Hb.out.size
    by_cases hlt : j < B.length
    · obtain ⟨g, rfl, hg1, hrow⟩ := Hrow.out (by omega)
      have hXj := HX.out j hlt
      have hjX : j < X.length := by have := HXl.out; omega
      obtain ⟨p, pc, c0, hd1⟩ := hrow.cell (mix_at hjX (HY.out j hlt))
      have hgl := hrow.lt
      have Hc := Lib.hid (HF.out j hlt _ _ wr Hb.out hd1.dsl)
      have Hst := Lib.hid (mix_set (X := X) (Y := Y) (by rw [HXl.out, HYl.out]) hXj)
      have Hat := Lib.hid (fun (h : t j = true) k (hk : k < j + 1) => by
        rcases Nat.lt_succ_iff_lt_or_eq.1 hk with h' | rfl
        · exact Hall.out k h'
        · exact h)
      have Hno := Lib.hid (fun (h : t j = false) => (show ((List.range B.length).all t) = false from by
        rw [List.all_eq_false]; exact ⟨j, List.mem_range.2 hlt, by rw [h]; decide⟩))
      have Hrw := Lib.hid hrow
      have hmix := mix_at hjX (HY.out j hlt)
      have HmixL := Lib.hid (show j < (X.take j ++ Y.drop j).length by
        rcases Nat.lt_or_ge j (X.take j ++ Y.drop j).length with k | k
        · exact k
        · rw [List.getElem?_eq_none k] at hmix; cases hmix)
      clear hd1 hrow hXj hmix
      generalize t j = tj at *
      generalize r j = rj at *
      go_wp2_with fail
      refine (Hc.out).mono ?_
      rintro e w3 ⟨⟨q, rfl, hdq⟩, hb3⟩
      have Hb3 := Lib.hid (Hb.out.trans (hb3.mono hs))
      have hs3 := Hb3.out.size
      cases tj with
      | false =>
        obtain rfl : SB = false := HSB.out.trans (Hno.out rfl)
        obtain rfl : SL = [] := HSL.out
        clear hdq hb3
        go_wp2_with fail
        go_returns
        exact ⟨⟨_, rfl, DSM.nil⟩, Hb3.out⟩
      | true =>
        have hr2 := Hrw.out.block (hb3.block _ Hrw.out.lt) fun k _ _ hk => hb3.block k hk
        have f1 := fun o => hr2.free o
        obtain ⟨a9, c9, e0, -⟩ := hr2.cell (mix_at hjX (HY.out j hlt))
        have hgl3 := Nat.lt_of_lt_of_le hgl hb3.size
        have hr3 := Hrw.out.put (j := j) HmixL.out hdq.upto (by omega) hb3.size fun k hk => hb3.block k hk
        rw [Hst.out] at hr3
        have Hr3 := Lib.hid hr3
        have hsz3 := Nat.le_trans hsz hb3.size
        obtain ⟨a2, cap3, rfl, -, -⟩ := hdq
        clear hr3 hr2 hb3 Hrow Hrw Hc Hb c0
        go_wp2_with fail
        go_roundg (B.length - (j + 1))
        case measure => omega
        case rel =>
          refine ⟨j + 1, rfl, by omega, by go_num, Lib.hid (fun _ => ⟨g, rfl, hg1, by simpa using Hr3.out⟩), Lib.hid (Hat.out trivial), ?_, by simpa using hsz3⟩
          have := Hb3.out
          show Below _ _ _
          go_grown
    · obtain rfl : j = B.length := by omega
      have hall : ((List.range B.length).all t) = true := by
        rw [List.all_eq_true]; exact fun k hk => Hall.out k (List.mem_range.1 hk)
      obtain rfl : SB = true := HSB.out.trans hall
      obtain rfl : SL = colsM X := HSL.out
      have hrow := Hrow.out
      have hd : DSM wr w.heap.size wr.heap.size (.slice ca B.length cc) X := ⟨_, _, by rw [HXl.out], by rw [HXl.out]; exact hcc, fun h0 => by
        rw [HXl.out] at h0
        obtain ⟨g, e, h1, h2⟩ := hrow h0
        refine ⟨g, e, h1, h2.lt, ?_⟩
        rw [List.take_of_length_le (by rw [HXl.out]; exact Nat.le_refl _), List.drop_of_length_le (by rw [HYl.out]; exact Nat.le_refl _), List.append_nil] at h2
        exact h2⟩
      have Hcs := Lib.hid (HT.out _ _ _ wr hd (fun r hr => by
        obtain ⟨k, hk, rfl⟩ := HM.out r hr
        rw [HXl.out, Hlen.out k (List.mem_range.1 hk) (Hall.out k (List.mem_range.1 hk))]
        exact Nat.le_refl _))
      clear hrow hd Hrow
      go_wp2_with fail
      refine (Hcs.out).mono ?_
      rintro e w6 ⟨q, rfl, hdq, hb6⟩
      have Hdq := Lib.hid (hdq.mono (D := w.heap.size) (E := w6.heap.size) hs (Nat.le_refl _))
      have Hb6 := Lib.hid (Hb.out.trans (hb6.mono hs))
      clear hb6 hdq
      go_wp2_with fail
      go_returns
      exact ⟨⟨_, rfl, Hdq.out⟩, Hb6.out⟩
end Go.Proofs.Ytmpafidkpangeaa
namespace Go.Proofs.Ytmpafidkpangeaa
open Go.RowKit
theorem mulML_eq (A B : List (List Dw)) : mapX B.length (fun k => appL A (col B k)) = mulML A B := rfl
attribute [local irreducible] World.cell?
set_option maxRecDepth 100000 in
set_option maxHeartbeats 1600000 in
theorem imul1 (P Q D g : Nat) (v c : Value) (M : List (List Dw)) (b : List Dw) (w : World) (hx : w.heap[g]? = some (.cells #[v] 33 (0, 0))) (hv : DSM w P Q v M) (hc : DSl w D c b) (hM : ∀ r ∈ M, r.length = b.length ∧ ∀ x ∈ r, x.ok) (hb : ∀ x ∈ b, x.ok) (hl : b.length ≤ 16) (hn : M.length ≤ 1048576) :
    Calls Try.prog 62 #[c, .pointer (some ⟨g, 0, none⟩)] w fun e w' => (∃ r, e = .returned (.tuple #[r, .bool (M.all fun r => rowB r b)]) ∧ DSl w' w.heap.size r (if (M.all fun r => rowB r b) = true then M.map (fun r => rowV r b) else [])) ∧ Below w.heap.size w w' := by
  have H := Lib.hid (iapplyR P Q D v c M b w hv hc hM hb hl hn)
  have c0 := cell_at hx 0 _ rfl
  have hg := lt_of_block hx
  clear hM hb hl hn hx
  generalize (if (M.all fun r => rowB r b) = true then M.map (fun r => rowV r b) else []) = SL at *
  generalize (M.all fun r => rowB r b) = SB at *
  obtain ⟨a, cap, rfl, -, -⟩ := hv
  obtain ⟨a', cap', rfl, -, -⟩ := hc
  go_enter Try.func62, Try.ntmps62
  go_wp2_with fail
  refine (H.out).mono ?_
  rintro e w1 ⟨⟨q, rfl, hd⟩, hb1⟩
  have Hd := Lib.hid hd
  have Hb1 := Lib.hid hb1
  clear hd hb1
  go_wp2_with fail
  go_returns
  exact ⟨⟨_, rfl, Hd.out⟩, Hb1.out⟩
set_option maxRecDepth 100000 in
set_option maxHeartbeats 3200000 in
theorem imulM_yes (P Q R S : Nat) (v u : Value) (A B : List (List Dw)) (w : World) (hv : DSM w P Q v A) (hu : DSM w R S u B) (hA : mtB A = true) (hB : mtB B = true) (hl : A.length = B.length) (ha : EbM A) (hb : EbM B) (hn : A.length ≤ 1048576) (hn' : B.length ≤ 1048576) (hm : amps A ≤ 1048576) (hm' : amps B ≤ 1048576) :
    Calls Try.prog 24 #[v, u] w fun e w' => (∃ r, e = .returned (.tuple #[r, .bool (mulMB A B)]) ∧ DSM w' w.heap.size w'.heap.size r (mulM A B)) ∧ Below w.heap.size w w' := by
  have h16 := mtB_len hB
  have eF : ∀ args w, (callFunc 62 args).run Try.prog w = .ok (.enter 62 args) w := Try.call62
  have H1 := Lib.hid (fun W (h : DSM W P Q v A) (h' : DSM W R S u B) => iareM P Q R S v u A B W h h' ha hb hn hn' hm hm')
  simp only [hA, hB, decide_eq_true hl, Bool.and_self] at H1
  have H2 := Lib.hid (fun W (h : DSM W P Q v A) (h' : DSM W R S u B) (hx : W.heap[w.heap.size]? = some (.cells #[v] 33 (0, 0))) =>
    imapC 62 #[.pointer (some ⟨w.heap.size, 0, none⟩)] eF R S u B (fun k => appB A (col B k)) (fun k => appL A (col B k)) W h' (fun r hr => by rw [(mt_rows hB r hr).1]; exact Nat.le_refl _) hn' (fun k _ hk => (appL_len hk).trans hl)
      (fun k hk D c W' hW hc => by
        have h3 := imul1 P Q D w.heap.size v c A (col B k) W' ((hW.block _ (lt_of_block hx)).trans hx) (h.below hW) hc (fun r hr => by rw [col_len, ← hl]; exact mt_rows hA r hr) (stB_iff.1 (col_st hB hk)).1 (by rw [col_len]; exact h16) hn
        have hap := appB_of (M := A) (v := col B k) hA (col_st hB hk) (by rw [col_len]; exact hl)
        have hall : appL A (col B k) = if appB A (col B k) = true then A.map (fun r => rowV r (col B k)) else [] := rfl
        rw [← hap, ← hall] at h3
        exact h3))
  have hMB := mulMB_of hA hB hl
  have hM : mulM A B = if mulMB A B = true then colsM (mulML A B) else [] := rfl
  rw [hM, hMB, ← mulML_eq]
  generalize (if (List.range B.length).all (fun k => appB A (col B k)) = true then colsM (mapX B.length fun k => appL A (col B k)) else []) = SL at *
  generalize (List.range B.length).all (fun k => appB A (col B k)) = SB at *
  have Hb0 := Lib.hid (show Below w.heap.size w (w.alloc (.cells #[v] 33)) by go_grown)
  have HX := Lib.hid (heap_alloc_new w (.cells #[v] 33))
  have c0 := cell_at HX.out 0 _ rfl
  have Hv := Lib.hid (hv.below ((Below.refl _ _).alloc (Nat.le_refl _) (.cells #[v] 33)))
  have Hu := Lib.hid (hu.below ((Below.refl _ _).alloc (Nat.le_refl _) (.cells #[v] 33)))
  have H1 := Lib.hid (H1.out _ Hv.out Hu.out)
  clear hMB hM hA hB ha hb hm hm' hl hn hn' h16
  obtain ⟨a, cap, rfl, -, -⟩ := hv
  obtain ⟨a', cap', rfl, -, -⟩ := hu
  go_enter Try.func24, Try.ntmps24
  go_wp2_with fail
  refine (H1.out).mono ?_
  rintro e w1 ⟨rfl, hb1⟩
  have H3 := Lib.hid (H2.out w1 (Hv.out.below hb1) (Hu.out.below hb1) (below_blk hb1 (lt_of_block HX.out) HX.out))
  have Hb1 := Lib.hid (below_nx Hb0.out hb1)
  have hs1 := Hb1.out.size
  clear hb1 c0 H1 H2 HX
  go_wp2_with fail
  refine (H3.out).mono ?_
  rintro e w2 ⟨⟨q, rfl, hd⟩, hb2⟩
  have Hd := Lib.hid (hd.mono (D := w.heap.size) (E := w2.heap.size) hs1 (Nat.le_refl _))
  have Hb2 := Lib.hid (below_nx Hb1.out hb2)
  clear hd hb2 H3
  go_wp2_with fail
  go_returns
  exact ⟨⟨_, rfl, Hd.out⟩, Hb2.out⟩
set_option maxRecDepth 100000 in
set_option maxHeartbeats 1600000 in
theorem imulM (P Q R S : Nat) (v u : Value) (A B : List (List Dw)) (w : World) (hv : DSM w P Q v A) (hu : DSM w R S u B) (hA : EbM A) (hB : EbM B) (hn : A.length ≤ 1048576) (hn' : B.length ≤ 1048576) (hm : amps A ≤ 1048576) (hm' : amps B ≤ 1048576) :
    Calls Try.prog 24 #[v, u] w fun e w' => (∃ r, e = .returned (.tuple #[r, .bool (mulMB A B)]) ∧ DSM w' w.heap.size w'.heap.size r (mulM A B)) ∧ Below w.heap.size w w' := by
  cases hT : (mtB A && mtB B && decide (A.length = B.length)) with
  | true =>
    obtain ⟨⟨h1, h2⟩, h3⟩ : (mtB A = true ∧ mtB B = true) ∧ A.length = B.length := by simpa using hT
    exact imulM_yes P Q R S v u A B w hv hu h1 h2 h3 hA hB hn hn' hm hm'
  | false =>
    have h : mulMB A B = false := by unfold mulMB; rw [hT]; rfl
    rw [show mulM A B = [] from if_neg (by rw [h]; decide), h]
    have HX := Lib.hid (heap_alloc_new w (.cells #[v] 33))
    have c0 := cell_at HX.out 0 _ rfl
    have Hb0 := Lib.hid (show Below w.heap.size w (w.alloc (.cells #[v] 33)) by go_grown)
    have H1 := Lib.hid (iareM P Q R S v u A B (w.alloc (.cells #[v] 33)) (hv.below ((Below.refl _ _).alloc (Nat.le_refl _) _)) (hu.below ((Below.refl _ _).alloc (Nat.le_refl _) _)) hA hB hn hn' hm hm')
    rw [hT] at H1
    clear hA hB hT h
    obtain ⟨a, cap, rfl, hcap, -⟩ := hv
    obtain ⟨a', cap', rfl, hcap', -⟩ := hu
    go_enter Try.func24, Try.ntmps24
    go_wp2_with fail
    refine (H1.out).mono ?_
    rintro e w1 ⟨rfl, hb1⟩
    have Hb1 := Lib.hid (below_nx Hb0.out hb1)
    clear hb1
    go_wp2_with fail
    go_returns
    exact ⟨⟨_, rfl, DSM.nil⟩, Hb1.out⟩
end Go.Proofs.Ytmpafidkpangeaa
namespace Go.Proofs.Ytmpafidkpangeaa
open Go.RowKit
attribute [local irreducible] World.cell?
end Go.Proofs.Ytmpafidkpangeaa
namespace Go.Proofs.Ytmpafidkpangeaa
open Go.RowKit
attribute [local irreducible] World.cell?
end Go.Proofs.Ytmpafidkpangeaa
namespace Go.Proofs.Ytmpafidkpangeaa
end Go.Proofs.Ytmpafidkpangeaa
