/- Plain: the value of a fraction over one common denominator; sums and products by it; amplitudes sent to their places as a linear map. -/
import Derived.Test.YtadimihfbpkilaaBaseB13
import Derived.Test.YtadimihfbpkilaaBaseB16
import Derived.Test.YtadimihfbpkilaaBaseB11
namespace Go.Proofs.Ytadimihfbpkilaa
theorem dAddB_ok {x y : Dw} (h : dAddB x y = true) : x.ok ∧ y.ok := ⟨(dAddB_iff.1 h).1, (dAddB_iff.1 h).2.1⟩
theorem dMulB_ok {x y : Dw} (h : dMulB x y = true) : x.ok ∧ y.ok := ⟨(dMulB_iff.1 h).1, (dMulB_iff.1 h).2.1⟩
theorem mul_assoc' (x y z : Zw) : (x.mul y).mul z = x.mul (y.mul z) := by
  apply Zw.ext4 <;> simp only [Zw.mul] <;> grind
theorem add_assoc' (x y z : Zw) : (x.add y).add z = x.add (y.add z) := by
  apply Zw.ext4 <;> simp only [Zw.add] <;> omega
theorem add_zero' (x : Zw) : x.add .zero = x := by
  apply Zw.ext4 <;> simp [Zw.add, Zw.zero]
theorem zero_add' (x : Zw) : Zw.zero.add x = x := by
  apply Zw.ext4 <;> simp [Zw.add, Zw.zero]
theorem zero_mul' (x : Zw) : Zw.zero.mul x = .zero := by
  apply Zw.ext4 <;> simp [Zw.mul, Zw.zero]
theorem mul_zero' (x : Zw) : x.mul .zero = .zero := by
  apply Zw.ext4 <;> simp [Zw.mul, Zw.zero]
theorem mul_add' (x y z : Zw) : x.mul (y.add z) = (x.mul y).add (x.mul z) := by
  rw [← mul_comm', add_mul', mul_comm' y, mul_comm' z]
theorem add_left' (x y z : Zw) : x.add (y.add z) = y.add (x.add z) := by
  rw [← add_assoc', add_comm' y x, add_assoc']
theorem rootN_z : ∀ k, rootN k .zero = .zero
  | 0 => rfl
  | k + 1 => rootN_z k
/-- The numerator over the sixtieth power of the root. -/
def vl (x : Dw) : Zw := rootN (60 - x.e.toNat) x.n
theorem vl_zero : vl .zero = .zero := rootN_z _
theorem vl_inj {x y : Dw} (hx : x.ok) (hy : y.ok) (h : vl x = vl y) : x = y := by
  refine unique hx hy ?_
  have hx1 := hx.2.2.1
  have hy1 := hy.2.2.1
  have h2 : rootN (x.e.toNat + y.e.toNat) (vl x) = rootN (x.e.toNat + y.e.toNat) (vl y) := by rw [h]
  unfold vl at h2
  rw [← rootN_add, ← rootN_add, show 60 - x.e.toNat + (x.e.toNat + y.e.toNat) = y.e.toNat + 60 by omega, show 60 - y.e.toNat + (x.e.toNat + y.e.toNat) = x.e.toNat + 60 by omega, rootN_add, rootN_add] at h2
  exact rootN_inj h2
theorem vl_add {x y : Dw} (h : dAddB x y = true) : vl (dAddV x y) = (vl x).add (vl y) := by
  have ha := adds_of h
  have hx := (dAddB_ok h).1.2.2.1
  have hy := (dAddB_ok h).2.2.2.1
  have hs := (dAddV_ok h).2.2.1
  generalize dAddV x y = s at *
  unfold Adds at ha
  apply rootN_inj (k := x.e.toNat + y.e.toNat + s.e.toNat)
  unfold vl
  rw [rootN_addZ, ← rootN_add, ← rootN_add, ← rootN_add, show 60 - s.e.toNat + (x.e.toNat + y.e.toNat + s.e.toNat) = (x.e.toNat + y.e.toNat) + 60 by omega, rootN_add, ha, ← rootN_add, rootN_addZ, ← rootN_add, ← rootN_add]
  congr 1 <;> congr 1 <;> omega
theorem vl_mul {x y : Dw} (h : dMulB x y = true) : rootN 60 (vl (dMulV x y)) = (vl x).mul (vl y) := by
  have ha := muls_of h
  have hx := (dMulB_ok h).1.2.2.1
  have hy := (dMulB_ok h).2.2.2.1
  have hs := (dMulV_ok h).2.2.1
  generalize dMulV x y = s at *
  unfold Muls at ha
  apply rootN_inj (k := x.e.toNat + y.e.toNat + s.e.toNat)
  unfold vl
  rw [← rootN_mul2, ← rootN_add, ← rootN_add, ← rootN_add, show 60 - s.e.toNat + (60 + (x.e.toNat + y.e.toNat + s.e.toNat)) = (x.e.toNat + y.e.toNat) + 120 by omega, rootN_add, ha, ← rootN_add]
  congr 1; omega
/-- A factor over the root. -/
def wt (b : Dw) : Zw := rootN (1 - b.e.toNat) b.n
theorem vl_wt {b : Dw} (h : b.e.toNat ≤ 1) : vl b = rootN 59 (wt b) := by
  unfold vl wt
  rw [← rootN_add]
  congr 1; omega
theorem vl_mulW {x b : Dw} (h : dMulB x b = true) (hb : b.e.toNat ≤ 1) : (vl (dMulV x b)).root = (vl x).mul (wt b) := by
  have h1 := vl_mul h
  rw [vl_wt hb, mul_comm' (rootN 59 (wt b)), ← rootN_mul, mul_comm' (vl x), show (60 : Nat) = 1 + 59 from rfl, rootN_add] at h1
  exact rootN_inj h1
/-- A sum of n numbers. -/
def sumZ : Nat → (Nat → Zw) → Zw
  | 0, _ => .zero
  | n + 1, f => (sumZ n f).add (f n)
theorem sumZ_congr {n : Nat} {f g : Nat → Zw} (h : ∀ i, i < n → f i = g i) : sumZ n f = sumZ n g := by
  induction n with
  | zero => rfl
  | succ n ih => rw [sumZ, sumZ, ih fun i hi => h i (by omega), h n (by omega)]
theorem sumZ_zero (n : Nat) : sumZ n (fun _ => .zero) = .zero := by
  induction n with
  | zero => rfl
  | succ n ih => rw [sumZ, ih, add_zero']
theorem sumZ_add (n : Nat) (f g : Nat → Zw) : sumZ n (fun i => (f i).add (g i)) = (sumZ n f).add (sumZ n g) := by
  induction n with
  | zero => exact (add_zero' _).symm
  | succ n ih => rw [sumZ, sumZ, sumZ, ih, add_assoc', add_assoc', add_left' (sumZ n g)]
theorem sumZ_mul (n : Nat) (f : Nat → Zw) (z : Zw) : (sumZ n f).mul z = sumZ n (fun i => (f i).mul z) := by
  induction n with
  | zero => exact zero_mul' z
  | succ n ih => rw [sumZ, sumZ, add_mul', ih]
theorem mul_sumZ (n : Nat) (f : Nat → Zw) (z : Zw) : z.mul (sumZ n f) = sumZ n (fun i => z.mul (f i)) := by
  rw [← mul_comm', sumZ_mul]
  exact sumZ_congr fun i _ => mul_comm' _ _
theorem root_sumZ (n : Nat) (f : Nat → Zw) : (sumZ n f).root = sumZ n (fun i => (f i).root) := by
  induction n with
  | zero => rfl
  | succ n ih => rw [sumZ, sumZ, root_add, ih]
theorem rootN_sumZ (k n : Nat) (f : Nat → Zw) : rootN k (sumZ n f) = sumZ n (fun i => rootN k (f i)) := by
  induction n with
  | zero => exact rootN_z k
  | succ n ih => rw [sumZ, sumZ, rootN_addZ, ih]
theorem sumZ_swap (n m : Nat) (f : Nat → Nat → Zw) : sumZ n (fun i => sumZ m (fun j => f i j)) = sumZ m (fun j => sumZ n (fun i => f i j)) := by
  induction n with
  | zero => exact (sumZ_zero m).symm
  | succ n ih =>
    rw [sumZ, ih, ← sumZ_add]
    rfl
/-- One term alone. -/
theorem sumZ_one {n k : Nat} (f : Nat → Zw) (hk : k < n) (h : ∀ i, i < n → i ≠ k → f i = .zero) : sumZ n f = f k := by
  induction n with
  | zero => omega
  | succ n ih =>
    rw [sumZ]
    by_cases e : k = n
    · subst e
      rw [sumZ_congr (g := fun _ => .zero) fun i hi => h i (by omega) (by omega), sumZ_zero, zero_add']
    · rw [ih (by omega) fun i hi => h i (by omega), h n (by omega) (by omega), add_zero']
/-- What a sum loses at its head. -/
theorem sumZ_head (n : Nat) (f : Nat → Zw) : sumZ (n + 1) f = (f 0).add (sumZ n fun i => f (i + 1)) := by
  induction n with
  | zero => rw [sumZ, sumZ, sumZ, zero_add', add_zero']
  | succ n ih => rw [sumZ, ih, sumZ, add_assoc']
/-- What a list of places gives to place j. -/
def cf : List (Nat × Dw) → Nat → Zw
  | [], _ => .zero
  | p :: r, j => if p.1 = j then (wt p.2).add (cf r j) else cf r j
/-- The same list, each place with its own number. -/
def cfs : List (Nat × Dw) → (Nat → Zw) → Zw
  | [], _ => .zero
  | p :: r, f => ((wt p.2).mul (f p.1)).add (cfs r f)
theorem cf_sum {N : Nat} (f : Nat → Zw) : ∀ (L : List (Nat × Dw)), (∀ p ∈ L, p.1 < N) → sumZ N (fun j => (cf L j).mul (f j)) = cfs L f
  | [], _ => by
    rw [cfs, ← sumZ_zero N]
    exact sumZ_congr fun i _ => zero_mul' _
  | p :: r, h => by
    have ih := cf_sum f r fun q hq => h q (List.mem_cons_of_mem _ hq)
    have h1 : sumZ N (fun j => if p.1 = j then (wt p.2).mul (f j) else .zero) = (wt p.2).mul (f p.1) := by
      rw [sumZ_one _ (h p (List.mem_cons_self ..)) fun i _ hi => if_neg fun e => hi e.symm, if_pos rfl]
    rw [cfs, ← ih, ← h1, ← sumZ_add]
    refine sumZ_congr fun j _ => ?_
    rw [cf]
    by_cases e : p.1 = j
    · rw [if_pos e, if_pos e, add_mul']
    · rw [if_neg e, if_neg e, zero_add']
theorem getD_set (o : List Dw) (k j : Nat) (z : Dw) (hk : k < o.length) : (o.set k z).getD j .zero = if k = j then z else o.getD j .zero := by
  rw [List.getD_eq_getElem?_getD, List.getElem?_set, List.getD_eq_getElem?_getD]
  by_cases e : k = j
  · rw [if_pos e, if_pos e, if_pos hk]; rfl
  · rw [if_neg e, if_neg e]
theorem set_ok' {o : List Dw} {p : Nat} {z : Dw} (h : ∀ y ∈ o, y.ok) (hz : z.ok) : ∀ y ∈ o.set p z, y.ok := fun y hy => by
  rcases List.mem_or_eq_of_mem_set hy with h1 | rfl
  · exact h y h1
  · exact hz
/-- An amplitude sent: what is added at each place. -/
theorem send_val {x : Dw} : ∀ {L : List (Nat × Dw)} {o o' : List Dw}, sendO x L o = some o' → (∀ y ∈ o, y.ok) → (∀ p ∈ L, p.1 < o.length ∧ p.2.e.toNat ≤ 1) →
    o'.length = o.length ∧ (∀ y ∈ o', y.ok) ∧ ∀ j, (vl (o'.getD j .zero)).root = ((vl (o.getD j .zero)).root).add ((vl x).mul (cf L j))
  | [], o, o', h, ho, _ => by
    rw [sendO] at h
    cases h
    exact ⟨rfl, ho, fun j => by rw [cf, mul_zero', add_zero']⟩
  | p :: r, o, o', h, ho, hL => by
    obtain ⟨hp1, hp2⟩ := hL p (List.mem_cons_self ..)
    rw [sendO] at h
    split at h
    · rename_i hb
      rw [Bool.and_eq_true] at hb
      obtain ⟨h1, h2, h3⟩ := send_val h (set_ok' ho (dAddV_ok hb.2)) fun q hq => by
        rw [List.length_set]; exact hL q (List.mem_cons_of_mem _ hq)
      refine ⟨by rw [h1, List.length_set], h2, fun j => ?_⟩
      rw [h3, getD_set _ _ _ _ hp1, cf]
      by_cases e : p.1 = j
      · subst e
        rw [if_pos rfl, if_pos rfl, vl_add hb.2, root_add, vl_mulW hb.1 hp2, mul_add', add_assoc']
      · rw [if_neg e, if_neg e]
    · cases h
/-- All amplitudes sent. -/
theorem ap_val {G : Nat → List (Nat × Dw)} {N : Nat} (hG : ∀ i, i < N → ∀ p ∈ G i, p.1 < N ∧ p.2.e.toNat ≤ 1) : ∀ {v : List Dw} {i : Nat} {o o' : List Dw}, apO G i v o = some o' → i + v.length ≤ N → o.length = N → (∀ y ∈ o, y.ok) →
    o'.length = N ∧ (∀ y ∈ o', y.ok) ∧ ∀ j, (vl (o'.getD j .zero)).root = ((vl (o.getD j .zero)).root).add (sumZ v.length fun a => (vl (v.getD a .zero)).mul (cf (G (i + a)) j))
  | [], i, o, o', h, _, hl, ho => by
    rw [apO] at h
    cases h
    exact ⟨hl, ho, fun j => by rw [List.length_nil, sumZ, add_zero']⟩
  | x :: r, i, o, o', h, hi, hl, ho => by
    rw [List.length_cons] at hi
    have hs : ∀ j, sumZ (r.length + 1) (fun a => (vl ((x :: r).getD a .zero)).mul (cf (G (i + a)) j)) = ((vl x).mul (cf (G i) j)).add (sumZ r.length fun a => (vl (r.getD a .zero)).mul (cf (G (i + 1 + a)) j)) := fun j => by
      rw [sumZ_head]
      congr 1
      refine sumZ_congr fun a _ => ?_
      rw [show i + (a + 1) = i + 1 + a by omega]
      rfl
    rw [apO] at h
    split at h
    · rename_i hx
      obtain ⟨h1, h2, h3⟩ := ap_val hG h (by omega) hl ho
      refine ⟨h1, h2, fun j => ?_⟩
      rw [List.length_cons, hs, h3, hx, vl_zero, zero_mul', zero_add']
    · split at h
      · rename_i o1 ho1
        obtain ⟨k1, k2, k3⟩ := send_val ho1 ho fun p hp => by rw [hl]; exact hG i (by omega) p hp
        obtain ⟨h1, h2, h3⟩ := ap_val hG h (by omega) (k1.trans hl) k2
        refine ⟨h1, h2, fun j => ?_⟩
        rw [List.length_cons, hs, h3, k3, add_assoc']
      · cases h
theorem rep_ok' {n : Nat} : ∀ y ∈ List.replicate n Dw.zero, y.ok := fun y hy => by rw [List.eq_of_mem_replicate hy]; exact zero_ok
theorem rep_getD (n j : Nat) : (List.replicate n Dw.zero).getD j .zero = .zero := by
  rw [List.getD_eq_getElem?_getD, List.getElem?_replicate]
  split <;> rfl
/-- All amplitudes sent, from nothing on. -/
theorem ap_zero {G : Nat → List (Nat × Dw)} {v o : List Dw} (hG : ∀ i, i < v.length → ∀ p ∈ G i, p.1 < v.length ∧ p.2.e.toNat ≤ 1) (h : apO G 0 v (List.replicate v.length .zero) = some o) :
    o.length = v.length ∧ (∀ y ∈ o, y.ok) ∧ ∀ j, (vl (o.getD j .zero)).root = sumZ v.length fun a => (vl (v.getD a .zero)).mul (cf (G a) j) := by
  obtain ⟨h1, h2, h3⟩ := ap_val hG h (by omega) List.length_replicate rep_ok'
  refine ⟨h1, h2, fun j => ?_⟩
  rw [h3, rep_getD, vl_zero, show Zw.zero.root = .zero from rfl, zero_add']
  exact sumZ_congr fun a _ => by rw [Nat.zero_add]
theorem getD_eq {u v : List Dw} (hl : u.length = v.length) (h : ∀ j, j < v.length → u.getD j .zero = v.getD j .zero) : u = v := by
  apply List.ext_getElem hl
  intro j h1 h2
  have := h j h2
  rwa [List.getD_eq_getElem?_getD, List.getD_eq_getElem?_getD, List.getElem?_eq_getElem h1, List.getElem?_eq_getElem h2] at this
theorem getD_ok {v : List Dw} (h : ∀ y ∈ v, y.ok) (j : Nat) : (v.getD j .zero).ok := by
  rw [List.getD_eq_getElem?_getD]
  cases e : v[j]? with
  | none => exact zero_ok
  | some y => exact h y (List.mem_of_getElem? e)
def twoZ : Zw := ⟨2, 0, 0, 0⟩
theorem mul_two (x : Zw) : x.mul twoZ = x.root.root := by
  apply Zw.ext4 <;> simp only [Zw.mul, Zw.root, twoZ] <;> omega
/-- Two maps one behind the other, of which the second undoes the first. -/
theorem ap_back {G H : Nat → List (Nat × Dw)} {v o b : List Dw} (hv : ∀ y ∈ v, y.ok) (hG : ∀ i, i < v.length → ∀ p ∈ G i, p.1 < v.length ∧ p.2.e.toNat ≤ 1) (hH : ∀ i, i < v.length → ∀ p ∈ H i, p.1 < v.length ∧ p.2.e.toNat ≤ 1)
    (hid : ∀ i, i < v.length → ∀ k, k < v.length → cfs (G i) (fun j => cf (H j) k) = if i = k then twoZ else .zero)
    (h1 : apO G 0 v (List.replicate v.length .zero) = some o) (h2 : apO H 0 o (List.replicate o.length .zero) = some b) : b = v := by
  obtain ⟨l1, o1, e1⟩ := ap_zero hG h1
  obtain ⟨l2, o2, e2⟩ := ap_zero (by rw [l1]; exact hH) h2
  refine getD_eq (l2.trans l1) fun k hk => vl_inj (getD_ok o2 k) (getD_ok hv k) (root_inj (root_inj ?_))
  rw [e2, root_sumZ, l1]
  have s1 : sumZ v.length (fun j => ((vl (o.getD j .zero)).mul (cf (H j) k)).root) = sumZ v.length fun j => sumZ v.length fun i => (vl (v.getD i .zero)).mul ((cf (G i) j).mul (cf (H j) k)) := sumZ_congr fun j _ => by
    rw [root_mul, e1, sumZ_mul]
    exact sumZ_congr fun i _ => mul_assoc' _ _ _
  have s2 : ∀ i, i < v.length → sumZ v.length (fun j => (vl (v.getD i .zero)).mul ((cf (G i) j).mul (cf (H j) k))) = (vl (v.getD i .zero)).mul (if i = k then twoZ else .zero) := fun i hi => by
    rw [← mul_sumZ, cf_sum (fun j => cf (H j) k) (G i) (fun p hp => (hG i hi p hp).1), hid i hi k hk]
  rw [s1, sumZ_swap, sumZ_congr s2, sumZ_one _ hk fun i _ hi => by rw [if_neg hi, mul_zero'], if_pos rfl, mul_two]
/-- A sum of products. -/
theorem mrow_val : ∀ {l : List (Dw × Dw)} {s t : Dw}, mrow s l = some t → s.ok → t.ok ∧ rootN 60 (vl t) = (rootN 60 (vl s)).add (sumZ l.length fun a => (vl (l.getD a (.zero, .zero)).1).mul (vl (l.getD a (.zero, .zero)).2))
  | [], s, t, h, hs => by
    rw [mrow] at h
    cases h
    exact ⟨hs, by rw [List.length_nil, sumZ, add_zero']⟩
  | p :: r, s, t, h, hs => by
    have hh : sumZ (r.length + 1) (fun a => (vl ((p :: r).getD a (.zero, .zero)).1).mul (vl ((p :: r).getD a (.zero, .zero)).2)) = ((vl p.1).mul (vl p.2)).add (sumZ r.length fun a => (vl (r.getD a (.zero, .zero)).1).mul (vl (r.getD a (.zero, .zero)).2)) := by
      rw [sumZ_head]
      rfl
    rw [mrow] at h
    split at h
    · rename_i hp
      obtain ⟨h1, h2⟩ := mrow_val h hs
      refine ⟨h1, ?_⟩
      have hz : (vl p.1).mul (vl p.2) = .zero := by
        rcases hp with e | e
        · rw [e, vl_zero, zero_mul']
        · rw [e, vl_zero, mul_zero']
      rw [List.length_cons, hh, hz, zero_add', h2]
    · split at h
      · rename_i hb
        rw [Bool.and_eq_true] at hb
        obtain ⟨h1, h2⟩ := mrow_val h (dAddV_ok hb.2)
        refine ⟨h1, ?_⟩
        rw [List.length_cons, hh, h2, vl_add hb.2, rootN_addZ, vl_mul hb.1, add_assoc']
      · cases h
/-- A row of a map's matrix with a state: the map's own amplitude. -/
theorem ap_row {G : Nat → List (Nat × Dw)} {v o : List Dw} (hG : ∀ i, i < v.length → ∀ p ∈ G i, p.1 < v.length ∧ p.2.e.toNat ≤ 1) (h1 : apO G 0 v (List.replicate v.length .zero) = some o)
    {row : List Dw} {k : Nat} {t : Dw} (_ : k < v.length) (hr : row.length = v.length) (hw : ∀ i, i < v.length → (vl (row.getD i .zero)).root = rootN 60 (cf (G i) k)) (ht : mrow .zero (row.zip v) = some t) : t = o.getD k .zero := by
  obtain ⟨l1, o1, e1⟩ := ap_zero hG h1
  obtain ⟨m1, m2⟩ := mrow_val ht zero_ok
  refine vl_inj m1 (getD_ok o1 k) (rootN_inj (k := 61) ?_)
  rw [rootN_succ 60, m2, vl_zero, rootN_z, zero_add', root_sumZ, show (61 : Nat) = 1 + 60 from rfl, rootN_add 1 60, show rootN 1 (vl (o.getD k .zero)) = (vl (o.getD k .zero)).root from rfl, e1, rootN_sumZ, List.length_zip, hr, Nat.min_self]
  refine sumZ_congr fun i hi => ?_
  have hz : (row.zip v).getD i (.zero, .zero) = (row.getD i .zero, v.getD i .zero) := by
    have a1 : i < row.length := by omega
    rw [List.getD_eq_getElem?_getD, List.getD_eq_getElem?_getD, List.getD_eq_getElem?_getD, List.getElem?_eq_getElem a1, List.getElem?_eq_getElem hi, List.getElem?_eq_getElem (by rw [List.length_zip]; omega), List.getElem_zip]
    rfl
  rw [hz, root_mul, hw i hi, ← rootN_mul, mul_comm' (vl (v.getD i .zero))]
end Go.Proofs.Ytadimihfbpkilaa
