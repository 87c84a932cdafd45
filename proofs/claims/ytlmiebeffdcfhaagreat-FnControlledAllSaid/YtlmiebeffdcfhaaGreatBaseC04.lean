/- BaseC04: several of our texts in one: AgV BaseB17 ApKb. -/
import Derived.Test.YtlmiebeffdcfhaaGreatBaseC05
import Derived.Test.YtlmiebeffdcfhaaGreatBaseB16
import Derived.Test.YtlmiebeffdcfhaaGreatBaseB11
import Derived.Test.YtlmiebeffdcfhaaGreatApB
namespace Go.Proofs.YtlmiebeffdcfhaaGreat
theorem dAddB_ok {x y : Dw} (h : dAddB x y = true) : x.ok ∧ y.ok := ⟨(dAddB_iff.1 h).1, (dAddB_iff.1 h).2.1⟩
theorem dMulB_ok {x y : Dw} (h : dMulB x y = true) : x.ok ∧ y.ok := ⟨(dMulB_iff.1 h).1, (dMulB_iff.1 h).2.1⟩
theorem mul_assoc' (x y z : Zw) : (x.mul y).mul z = x.mul (y.mul z) := by
  apply Zw.ext4 <;> simp only [Zw.mul] <;> grind
theorem add_assoc' (x y z : Zw) : (x.add y).add z = x.add (y.add z) := by
  apply Zw.ext4 <;> simp only [Zw.add] <;> omega
theorem add_zero' (x : Zw) : x.add .zero = x := by
  apply Zw.ext4 <;> simp [Zw.add, Zw.zero]
theorem zero_add' (x : Zw) : Zw.zero.add x = x := by
  apply Zw.ext4 <;> simp [Zw.add, Zw.zero]
theorem zero_mul' (x : Zw) : Zw.zero.mul x = .zero := by
  apply Zw.ext4 <;> simp [Zw.mul, Zw.zero]
theorem mul_zero' (x : Zw) : x.mul .zero = .zero := by
  apply Zw.ext4 <;> simp [Zw.mul, Zw.zero]
theorem mul_add' (x y z : Zw) : x.mul (y.add z) = (x.mul y).add (x.mul z) := by
  rw [← mul_comm', add_mul', mul_comm' y, mul_comm' z]
theorem add_left' (x y z : Zw) : x.add (y.add z) = y.add (x.add z) := by
  rw [← add_assoc', add_comm' y x, add_assoc']
theorem rootN_z : ∀ k, rootN k .zero = .zero
  | 0 => rfl
  | k + 1 => rootN_z k
/-- The numerator over the sixtieth power of the root. -/
def vl (x : Dw) : Zw := rootN (60 - x.e.toNat) x.n
theorem vl_zero : vl .zero = .zero := rootN_z _
theorem vl_inj {x y : Dw} (hx : x.ok) (hy : y.ok) (h : vl x = vl y) : x = y := by
  refine unique hx hy ?_
  have hx1 := hx.2.2.1
  have hy1 := hy.2.2.1
  have h2 : rootN (x.e.toNat + y.e.toNat) (vl x) = rootN (x.e.toNat + y.e.toNat) (vl y) := by rw [h]
  unfold vl at h2
  rw [← rootN_add, ← rootN_add, show 60 - x.e.toNat + (x.e.toNat + y.e.toNat) = y.e.toNat + 60 by omega, show 60 - y.e.toNat + (x.e.toNat + y.e.toNat) = x.e.toNat + 60 by omega, rootN_add, rootN_add] at h2
  exact rootN_inj h2
theorem vl_add {x y : Dw} (h : dAddB x y = true) : vl (dAddV x y) = (vl x).add (vl y) := by
  have ha := adds_of h
  have hx := (dAddB_ok h).1.2.2.1
  have hy := (dAddB_ok h).2.2.2.1
  have hs := (dAddV_ok h).2.2.1
  generalize dAddV x y = s at *
  unfold Adds at ha
  apply rootN_inj (k := x.e.toNat + y.e.toNat + s.e.toNat)
  unfold vl
  rw [rootN_addZ, ← rootN_add, ← rootN_add, ← rootN_add, show 60 - s.e.toNat + (x.e.toNat + y.e.toNat + s.e.toNat) = (x.e.toNat + y.e.toNat) + 60 by omega, rootN_add, ha, ← rootN_add, rootN_addZ, ← rootN_add, ← rootN_add]
  congr 1 <;> congr 1 <;> omega
theorem vl_mul {x y : Dw} (h : dMulB x y = true) : rootN 60 (vl (dMulV x y)) = (vl x).mul (vl y) := by
  have ha := muls_of h
  have hx := (dMulB_ok h).1.2.2.1
  have hy := (dMulB_ok h).2.2.2.1
  have hs := (dMulV_ok h).2.2.1
  generalize dMulV x y = s at *
  unfold Muls at ha
  apply rootN_inj (k := x.e.toNat + y.e.toNat + s.e.toNat)
  unfold vl
  rw [← rootN_mul2, ← rootN_add, ← rootN_add, ← rootN_add, show 60 - s.e.toNat + (60 + (x.e.toNat + y.e.toNat + s.e.toNat)) = (x.e.toNat + y.e.toNat) + 120 by omega, rootN_add, ha, ← rootN_add]
  congr 1; omega
/-- A factor over the root. -/
def wt (b : Dw) : Zw := rootN (1 - b.e.toNat) b.n
theorem vl_wt {b : Dw} (h : b.e.toNat ≤ 1) : vl b = rootN 59 (wt b) := by
  unfold vl wt
  rw [← rootN_add]
  congr 1; omega
theorem vl_mulW {x b : Dw} (h : dMulB x b = true) (hb : b.e.toNat ≤ 1) : (vl (dMulV x b)).root = (vl x).mul (wt b) := by
  have h1 := vl_mul h
  rw [vl_wt hb, mul_comm' (rootN 59 (wt b)), ← rootN_mul, mul_comm' (vl x), show (60 : Nat) = 1 + 59 from rfl, rootN_add] at h1
  exact rootN_inj h1
/-- A sum of n numbers. -/
def sumZ : Nat → (Nat → Zw) → Zw
  | 0, _ => .zero
  | n + 1, f => (sumZ n f).add (f n)
theorem sumZ_congr {n : Nat} {f g : Nat → Zw} (h : ∀ i, i < n → f i = g i) : sumZ n f = sumZ n g := by
  induction n with
  | zero => rfl
  | succ n ih => rw [sumZ, sumZ, ih fun i hi => h i (by omega), h n (by omega)]
theorem sumZ_zero (n : Nat) : sumZ n (fun _ => .zero) = .zero := by
  induction n with
  | zero => rfl
  | succ n ih => rw [sumZ, ih, add_zero']
theorem sumZ_add (n : Nat) (f g : Nat → Zw) : sumZ n (fun i => (f i).add (g i)) = (sumZ n f).add (sumZ n g) := by
  induction n with
  | zero => exact (add_zero' _).symm
  | succ n ih => rw [sumZ, sumZ, sumZ, ih, add_assoc', add_assoc', add_left' (sumZ n g)]
theorem sumZ_mul (n : Nat) (f : Nat → Zw) (z : Zw) : (sumZ n f).mul z = sumZ n (fun i => (f i).mul z) := by
  induction n with
  | zero => exact zero_mul' z
  | succ n ih => rw [sumZ, sumZ, add_mul', ih]
theorem mul_sumZ (n : Nat) (f : Nat → Zw) (z : Zw) : z.mul (sumZ n f) = sumZ n (fun i => z.mul (f i)) := by
  rw [← mul_comm', sumZ_mul]
  exact sumZ_congr fun i _ => mul_comm' _ _
theorem root_sumZ (n : Nat) (f : Nat → Zw) : (sumZ n f).root = sumZ n (fun i => (f i).root) := by
  induction n with
  | zero => rfl
  | succ n ih => rw [sumZ, sumZ, root_add, ih]
theorem rootN_sumZ (k n : Nat) (f : Nat → Zw) : rootN k (sumZ n f) = sumZ n (fun i => rootN k (f i)) := by
  induction n with
  | zero => exact rootN_z k
  | succ n ih => rw [sumZ, sumZ, rootN_addZ, ih]
theorem sumZ_swap (n m : Nat) (f : Nat → Nat → Zw) : sumZ n (fun i => sumZ m (fun j => f i j)) = sumZ m (fun j => sumZ n (fun i => f i j)) := by
  induction n with
  | zero => exact (sumZ_zero m).symm
  | succ n ih =>
    rw [sumZ, ih, ← sumZ_add]
    rfl
/-- One term alone. -/
theorem sumZ_one {n k : Nat} (f : Nat → Zw) (hk : k < n) (h : ∀ i, i < n → i ≠ k → f i = .zero) : sumZ n f = f k := by
  induction n with
  | zero => omega
  | succ n ih =>
    rw [sumZ]
    by_cases e : k = n
    · subst e
      rw [sumZ_congr (g := fun _ => .zero) fun i hi => h i (by omega) (by omega), sumZ_zero, zero_add']
    · rw [ih (by omega) fun i hi => h i (by omega), h n (by omega) (by omega), add_zero']
/-- What a sum loses at its head. -/
theorem sumZ_head (n : Nat) (f : Nat → Zw) : sumZ (n + 1) f = (f 0).add (sumZ n fun i => f (i + 1)) := by
  induction n with
  | zero => rw [sumZ, sumZ, sumZ, zero_add', add_zero']
  | succ n ih => rw [sumZ, ih, sumZ, add_assoc']
/-- What a list of places gives to place j. -/
def cf : List (Nat × Dw) → Nat → Zw
  | [], _ => .zero
  | p :: r, j => if p.1 = j then (wt p.2).add (cf r j) else cf r j
/-- The same list, each place with its own number. -/
def cfs : List (Nat × Dw) → (Nat → Zw) → Zw
  | [], _ => .zero
  | p :: r, f => ((wt p.2).mul (f p.1)).add (cfs r f)
theorem cf_sum {N : Nat} (f : Nat → Zw) : ∀ (L : List (Nat × Dw)), (∀ p ∈ L, p.1 < N) → sumZ N (fun j => (cf L j).mul (f j)) = cfs L f
  | [], _ => by
    rw [cfs, ← sumZ_zero N]
    exact sumZ_congr fun i _ => zero_mul' _
  | p :: r, h => by
    have ih := cf_sum f r fun q hq => h q (List.mem_cons_of_mem _ hq)
    have h1 : sumZ N (fun j => if p.1 = j then (wt p.2).mul (f j) else .zero) = (wt p.2).mul (f p.1) := by
      rw [sumZ_one _ (h p (List.mem_cons_self ..)) fun i _ hi => if_neg fun e => hi e.symm, if_pos rfl]
    rw [cfs, ← ih, ← h1, ← sumZ_add]
    refine sumZ_congr fun j _ => ?_
    rw [cf]
    by_cases e : p.1 = j
    · rw [if_pos e, if_pos e, add_mul']
    · rw [if_neg e, if_neg e, zero_add']
theorem getD_set (o : List Dw) (k j : Nat) (z : Dw) (hk : k < o.length) : (o.set k z).getD j .zero = if k = j then z else o.getD j .zero := by
  rw [List.getD_eq_getElem?_getD, List.getElem?_set, List.getD_eq_getElem?_getD]
  by_cases e : k = j
  · rw [if_pos e, if_pos e, if_pos hk]; rfl
  · rw [if_neg e, if_neg e]
theorem set_ok' {o : List Dw} {p : Nat} {z : Dw} (h : ∀ y ∈ o, y.ok) (hz : z.ok) : ∀ y ∈ o.set p z, y.ok := fun y hy => by
  rcases List.mem_or_eq_of_mem_set hy with h1 | rfl
  · exact h y h1
  · exact hz
/-- An amplitude sent: what is added at each place. -/
theorem send_val {x : Dw} : ∀ {L : List (Nat × Dw)} {o o' : List Dw}, sendO x L o = some o' → (∀ y ∈ o, y.ok) → (∀ p ∈ L, p.1 < o.length ∧ p.2.e.toNat ≤ 1) →
    o'.length = o.length ∧ (∀ y ∈ o', y.ok) ∧ ∀ j, (vl (o'.getD j .zero)).root = ((vl (o.getD j .zero)).root).add ((vl x).mul (cf L j))
  | [], o, o', h, ho, _ => by
    rw [sendO] at h
    cases h
    exact ⟨rfl, ho, fun j => by rw [cf, mul_zero', add_zero']⟩
  | p :: r, o, o', h, ho, hL => by
    obtain ⟨hp1, hp2⟩ := hL p (List.mem_cons_self ..)
    rw [sendO] at h
    split at h
    · rename_i hb
      rw [Bool.and_eq_true] at hb
      obtain ⟨h1, h2, h3⟩ := send_val h (set_ok' ho (dAddV_ok hb.2)) fun q hq => by
        rw [List.length_set]; exact hL q (List.mem_cons_of_mem _ hq)
      refine ⟨by rw [h1, List.length_set], h2, fun j => ?_⟩
      rw [h3, getD_set _ _ _ _ hp1, cf]
      by_cases e : p.1 = j
      · subst e
        rw [if_pos rfl, if_pos rfl, vl_add hb.2, root_add, vl_mulW hb.1 hp2, mul_add', add_assoc']
      · rw [if_neg e, if_neg e]
    · cases h
/-- All amplitudes sent. -/
theorem ap_val {G : Nat → List (Nat × Dw)} {N : Nat} (hG : ∀ i, i < N → ∀ p ∈ G i, p.1 < N ∧ p.2.e.toNat ≤ 1) : ∀ {v : List Dw} {i : Nat} {o o' : List Dw}, apO G i v o = some o' → i + v.length ≤ N → o.length = N → (∀ y ∈ o, y.ok) →
    o'.length = N ∧ (∀ y ∈ o', y.ok) ∧ ∀ j, (vl (o'.getD j .zero)).root = ((vl (o.getD j .zero)).root).add (sumZ v.length fun a => (vl (v.getD a .zero)).mul (cf (G (i + a)) j))
  | [], i, o, o', h, _, hl, ho => by
    rw [apO] at h
    cases h
    exact ⟨hl, ho, fun j => by rw [List.length_nil, sumZ, add_zero']⟩
  | x :: r, i, o, o', h, hi, hl, ho => by
    rw [List.length_cons] at hi
    have hs : ∀ j, sumZ (r.length + 1) (fun a => (vl ((x :: r).getD a .zero)).mul (cf (G (i + a)) j)) = ((vl x).mul (cf (G i) j)).add (sumZ r.length fun a => (vl (r.getD a .zero)).mul (cf (G (i + 1 + a)) j)) := fun j => by
      rw [sumZ_head]
      congr 1
      refine sumZ_congr fun a _ => ?_
      rw [show i + (a + 1) = i + 1 + a by omega]
      rfl
    rw [apO] at h
    split at h
    · rename_i hx
      obtain ⟨h1, h2, h3⟩ := ap_val hG h (by omega) hl ho
      refine ⟨h1, h2, fun j => ?_⟩
      rw [List.length_cons, hs, h3, hx, vl_zero, zero_mul', zero_add']
    · split at h
      · rename_i o1 ho1
        obtain ⟨k1, k2, k3⟩ := send_val ho1 ho fun p hp => by rw [hl]; exact hG i (by omega) p hp
        obtain ⟨h1, h2, h3⟩ := ap_val hG h (by omega) (k1.trans hl) k2
        refine ⟨h1, h2, fun j => ?_⟩
        rw [List.length_cons, hs, h3, k3, add_assoc']
      · cases h
theorem rep_ok' {n : Nat} : ∀ y ∈ List.replicate n Dw.zero, y.ok := fun y hy => by rw [List.eq_of_mem_replicate hy]; exact zero_ok
theorem rep_getD (n j : Nat) : (List.replicate n Dw.zero).getD j .zero = .zero := by
  rw [List.getD_eq_getElem?_getD, List.getElem?_replicate]
  split <;> rfl
/-- All amplitudes sent, from nothing on. -/
theorem ap_zero {G : Nat → List (Nat × Dw)} {v o : List Dw} (hG : ∀ i, i < v.length → ∀ p ∈ G i, p.1 < v.length ∧ p.2.e.toNat ≤ 1) (h : apO G 0 v (List.replicate v.length .zero) = some o) :
    o.length = v.length ∧ (∀ y ∈ o, y.ok) ∧ ∀ j, (vl (o.getD j .zero)).root = sumZ v.length fun a => (vl (v.getD a .zero)).mul (cf (G a) j) := by
  obtain ⟨h1, h2, h3⟩ := ap_val hG h (by omega) List.length_replicate rep_ok'
  refine ⟨h1, h2, fun j => ?_⟩
  rw [h3, rep_getD, vl_zero, show Zw.zero.root = .zero from rfl, zero_add']
  exact sumZ_congr fun a _ => by rw [Nat.zero_add]
theorem getD_eq {u v : List Dw} (hl : u.length = v.length) (h : ∀ j, j < v.length → u.getD j .zero = v.getD j .zero) : u = v := by
  apply List.ext_getElem hl
  intro j h1 h2
  have := h j h2
  rwa [List.getD_eq_getElem?_getD, List.getD_eq_getElem?_getD, List.getElem?_eq_getElem h1, List.getElem?_eq_getElem h2] at this
theorem getD_ok {v : List Dw} (h : ∀ y ∈ v, y.ok) (j : Nat) : (v.getD j .zero).ok := by
  rw [List.getD_eq_getElem?_getD]
  cases e : v[j]? with
  | none => exact zero_ok
  | some y => exact h y (List.mem_of_getElem? e)
end Go.Proofs.YtlmiebeffdcfhaaGreat
namespace Go.Proofs.YtlmiebeffdcfhaaGreat
open Go.RowKit
attribute [local irreducible] World.cell?
set_option maxRecDepth 100000 in
set_option maxHeartbeats 3200000 in
theorem sapG_no1 (B : Nat) (g : Gt) (v : Value) (l : List Dw) (w : World) (hv : DSl w B v l) (hst : stB l = true) (hg : gtB g (qc l.length) = false) :
    Calls Tryz.prog 35 #[(.agg #[.int .i64 g.k, .int .i64 g.a, .int .i64 g.b, .int .i64 g.c]), v] w fun e w' => (∃ r, e = .returned (.tuple #[r, .bool false]) ∧ DSl w' w.heap.size r []) ∧ Below w.heap.size w w' := by
  have hlen := stB_len hst
  have Hb0 := Lib.hid (show Below w.heap.size w (w.alloc (.cells #[.int .i64 g.k, .int .i64 g.a, .int .i64 g.b, .int .i64 g.c] 25)) by go_grown)
  have H1 := Lib.hid (svalidSt B v l (w.alloc (.cells #[.int .i64 g.k, .int .i64 g.a, .int .i64 g.b, .int .i64 g.c] 25)).drew ((hv.below ((Below.refl _ _).alloc (Nat.le_refl _) (.cells #[.int .i64 g.k, .int .i64 g.a, .int .i64 g.b, .int .i64 g.c] 25))).block fun _ _ _ => rfl) (by omega))
  have H3 := Lib.hid (fun W => svalidG g (qc l.length) W)
  simp only [hg] at H3
  rw [hst] at H1
  obtain ⟨c0, c1, c2, c3⟩ := blk_cells (heap_alloc_new w (.cells #[.int .i64 g.k, .int .i64 g.a, .int .i64 g.b, .int .i64 g.c] 25))
  have hS : G1 (w.alloc (.cells #[.int .i64 g.k, .int .i64 g.a, .int .i64 g.b, .int .i64 g.c] 25)) w.heap.size g (w.alloc (.cells #[.int .i64 g.k, .int .i64 g.a, .int .i64 g.b, .int .i64 g.c] 25)) := ⟨c0, c1, c2, c3, by simp, Below.refl _ _⟩
  obtain ⟨a, cap, rfl, hcap, -⟩ := hv
  have Hq := Lib.hid (fun W => squbits a l.length cap W)
  have hqr := qc_range l.length
  generalize qc l.length = n at *
  clear hst hg
  go_enter Tryz.func35, Tryz.ntmps35
  go_upto_region 1 with fail
  refine wp_region_held_drew (S := (fun w' => w'.cell? ⟨w.heap.size, 0, none⟩ = some (.int .i64 g.k) ∧ w'.cell? ⟨w.heap.size, 1, none⟩ = some (.int .i64 g.a) ∧ w'.cell? ⟨w.heap.size, 2, none⟩ = some (.int .i64 g.b) ∧ w'.cell? ⟨w.heap.size, 3, none⟩ = some (.int .i64 g.c) ∧ w.heap.size < w'.heap.size ∧ Below (w.alloc (.cells #[.int .i64 g.k, .int .i64 g.a, .int .i64 g.b, .int .i64 g.c] 25)).heap.size (w.alloc (.cells #[.int .i64 g.k, .int .i64 g.a, .int .i64 g.b, .int .i64 g.c] 25)) w')) (by kernel_rfl) ?_ (fun hHeld => ?_)
  · exact hS.drew
  refine wpAnyH_take (i := 0) (oi := _) (v := ?_) op_at0 (by kernel_rfl) (by kernel_rfl) (by kernel_rfl) (fun _ _ _ h => h) (Or.inl ⟨by rfl, ?_⟩) (by assumption) ?_
  rotate_left
  · intro w hSw
    (try dsimp only at hSw)
    go_simp
    (try with_reducible rfl)
  (try simp only [Act.put, List.setIfInBounds_toArray, List.set_cons_zero, List.set_cons_succ])
  refine wpAnyH_ready (rs := [1]) (by kernel_rfl) (by simp) ?_
  refine AllReadyH.cons (o := _) op_at1 (fun K hK => ?_) ?_
  · go_simp
    refine (H1.out).mono ?_
    rintro e wR ⟨rfl, hbR⟩
    go_wp2_with fail
    refine hK.out _ _ ?_ (fun hHeld => ?_)
    · exact hS.drew.below hbR
    clear hK K
    (try simp only [Act.put, List.setIfInBounds_toArray, List.set_cons_zero, List.set_cons_succ])
    refine wpAnyH_take (i := 2) (oi := _) (v := ?_) op_at2 (by kernel_rfl) (by kernel_rfl) (by kernel_rfl) (fun _ _ _ h => h) (Or.inl ⟨by rfl, ?_⟩) (by assumption) ?_
    rotate_left
    · intro w hSw
      (try dsimp only at hSw)
      go_simp
      (try with_reducible rfl)
    (try simp only [Act.put, List.setIfInBounds_toArray, List.set_cons_zero, List.set_cons_succ])
    refine wpAnyH_take (i := 3) (oi := _) (v := ?_) op_at3 (by kernel_rfl) (by kernel_rfl) (by kernel_rfl) (fun _ _ _ h => h) (Or.inl ⟨by rfl, ?_⟩) (by assumption) ?_
    rotate_left
    · intro w hSw
      (try dsimp only at hSw)
      go_simp
      (try with_reducible rfl)
    (try simp only [Act.put, List.setIfInBounds_toArray, List.set_cons_zero, List.set_cons_succ])
    refine wpAnyH_take (i := 4) (oi := _) (v := ?_) op_at4 (by kernel_rfl) (by kernel_rfl) (by kernel_rfl) (fun _ _ _ h => h) (Or.inl ⟨by rfl, ?_⟩) (by assumption) ?_
    rotate_left
    · intro w hSw
      (try dsimp only at hSw)
      go_simp
      (try with_reducible rfl)
    (try simp only [Act.put, List.setIfInBounds_toArray, List.set_cons_zero, List.set_cons_succ])
    refine wpAnyH_take (i := 5) (oi := _) (v := ?_) op_at5 (by kernel_rfl) (by kernel_rfl) (by kernel_rfl) (fun _ _ _ h => h) (Or.inl ⟨by rfl, ?_⟩) (by assumption) ?_
    rotate_left
    · intro w hSw
      (try dsimp only at hSw)
      go_simp
      (try with_reducible rfl)
    (try simp only [Act.put, List.setIfInBounds_toArray, List.set_cons_zero, List.set_cons_succ])
    refine wpAnyH_ready (rs := [6]) (by kernel_rfl) (by simp) ?_
    refine AllReadyH.cons (o := _) op_at6 (fun K hK => ?_) ?_
    · go_simp
      refine (Hq.out _).mono ?_
      rintro e wQ ⟨rfl, rfl⟩
      go_wp2_with fail
      refine hK.out _ _ ?_ (fun hHeld => ?_)
      · exact hHeld
      clear hK K
      (try simp only [Act.put, List.setIfInBounds_toArray, List.set_cons_zero, List.set_cons_succ])
      refine wpAnyH_ready (rs := [7]) (by kernel_rfl) (by simp) ?_
      refine AllReadyH.cons (o := _) op_at7 (fun K hK => ?_) ?_
      · go_simp
        refine (H3.out _).mono ?_
        rintro e w3 ⟨rfl, hb3⟩
        go_wp2_with fail
        refine hK.out _ _ ?_ (fun hHeld => ?_)
        · exact (show G1 (w.alloc (.cells #[.int .i64 g.k, .int .i64 g.a, .int .i64 g.b, .int .i64 g.c] 25)) w.heap.size g wR from hHeld).below hb3
        clear hK K
        (try simp only [Act.put, List.setIfInBounds_toArray, List.set_cons_zero, List.set_cons_succ])
        refine wpAnyH_take (i := 8) (oi := _) (v := ?_) op_at8 (by kernel_rfl) (by kernel_rfl) (by kernel_rfl) (fun _ _ _ h => h) (Or.inl ⟨by rfl, ?_⟩) (by assumption) ?_
        rotate_left
        · intro w hSw
          (try dsimp only at hSw)
          go_simp
          (try with_reducible rfl)
        (try simp only [Act.put, List.setIfInBounds_toArray, List.set_cons_zero, List.set_cons_succ])
        refine wpAnyH_take (i := 9) (oi := _) (v := ?_) op_at9 (by kernel_rfl) (by kernel_rfl) (by kernel_rfl) (fun _ _ _ h => h) (Or.inl ⟨by rfl, ?_⟩) (by assumption) ?_
        rotate_left
        · intro w hSw
          (try dsimp only at hSw)
          go_simp
          (try with_reducible rfl)
        (try simp only [Act.put, List.setIfInBounds_toArray, List.set_cons_zero, List.set_cons_succ])
        refine wpAnyH_done (by kernel_rfl) ?_ _
        have hS3 : G1 (w.alloc (.cells #[.int .i64 g.k, .int .i64 g.a, .int .i64 g.b, .int .i64 g.c] 25)) w.heap.size g w3 := hHeld
        have Hb3 := Lib.hid (Hb0.out.trans (hS3.low.mono (by simp)))
        have hs3 := Hb3.out.size
        clear hbR hb3 hS hS3 hHeld c0 c1 c2 c3 H1 H3 Hq
        go_wp2_with fail
        go_returns
        exact ⟨⟨_, rfl, DSl.nil⟩, by have := Hb3.out; go_grown⟩
      · exact AllReadyH.nil
    · exact AllReadyH.nil
  · exact AllReadyH.nil
theorem agO_no {g : Gt} {l : List Dw} (h : agO g l = none) : agV g l = [] ∧ agB g l = false := ⟨by unfold agV; rw [h]; rfl, by unfold agB; rw [h]; rfl⟩
theorem sapG (B : Nat) (g : Gt) (v : Value) (l : List Dw) (w : World) (hv : DSl w B v l) (hm : l.length ≤ 1048576) :
    Calls Tryz.prog 35 #[(.agg #[.int .i64 g.k, .int .i64 g.a, .int .i64 g.b, .int .i64 g.c]), v] w fun e w' => (∃ r, e = .returned (.tuple #[r, .bool (agB g l)]) ∧ DSl w' w.heap.size r (agV g l)) ∧ Below w.heap.size w w' := by
  cases hst : stB l with
  | false =>
    have h := agO_no (g := g) (l := l) (by unfold agO; rw [hst]; rfl)
    rw [h.1, h.2]; exact sapG_no0 B g v l w hv hm hst
  | true =>
    cases hg : gtB g (qc l.length) with
    | false =>
      have h := agO_no (g := g) (l := l) (by unfold agO; rw [hst, hg]; rfl)
      rw [h.1, h.2]; exact sapG_no1 B g v l w hv hst hg
    | true => exact sapG_yes B g v l w hv hst hg
end Go.Proofs.YtlmiebeffdcfhaaGreat
namespace Go.Proofs.YtlmiebeffdcfhaaGreat
open Go.RowKit
theorem sendO_len {x : Dw} : ∀ {L : List (Nat × Dw)} {o o' : List Dw}, sendO x L o = some o' → o'.length = o.length
  | [], o, o', h => by injection h with h; rw [h]
  | p :: L, o, o', h => by
    rw [sendO] at h
    split at h
    · rw [sendO_len h, List.length_set]
    · cases h
theorem apO_len {G : Nat → List (Nat × Dw)} : ∀ {l : List Dw} {i : Nat} {o o' : List Dw}, apO G i l o = some o' → o'.length = o.length
  | [], i, o, o', h => by injection h with h; rw [h]
  | x :: l, i, o, o', h => by
    rw [apO] at h
    split at h
    · exact apO_len h
    · split at h
      · rename_i o2 h2
        rw [apO_len h, sendO_len h2]
      · cases h
theorem agV_len (g : Gt) (l : List Dw) : (agV g l).length ≤ l.length := by
  unfold agV
  cases h : agO g l with
  | none => exact Nat.zero_le _
  | some o =>
    unfold agO at h
    split at h
    · have := apO_len h
      rw [List.length_replicate] at this
      simp [this]
    · cases h
/-- Gates applied one behind the other. -/
def agsF : List Gt → List Dw → Option (List Dw)
  | [], o => some o
  | g :: r, o => if agB g o then agsF r (agV g o) else none
def agsO (L : List Gt) (v : List Dw) : Option (List Dw) := if stB v then agsF L v else none
def agsV (L : List Gt) (v : List Dw) : List Dw := (agsO L v).getD []
def agsB (L : List Gt) (v : List Dw) : Bool := (agsO L v).isSome
theorem ags_step {L : List Gt} {j : Nat} {g : Gt} {o : List Dw} (hg : L[j]? = some g) : agsF (L.drop j) o = if agB g o then agsF (L.drop (j + 1)) (agV g o) else none := by
  have hj : j < L.length := by
    rcases Nat.lt_or_ge j L.length with h' | h'
    · exact h'
    · rw [List.getElem?_eq_none h'] at hg; cases hg
  rw [List.getElem?_eq_getElem hj] at hg
  injection hg with hg
  rw [← List.getElem_cons_drop hj, hg]
  rfl
theorem row_src {w : World} {g : Nat} {l : List Dw} (h : DRow w g l) : ∀ j u, (flat l)[j]? = some u → w.cell? ((⟨g, 0, none⟩ : Addr).add j) = some u := by
  intro j u hj
  obtain ⟨cs, h1, h2⟩ := h
  have ha : (⟨g, 0, none⟩ : Addr).add j = ⟨g, j, none⟩ := by
    unfold Addr.add
    by_cases h0 : j = 0
    · simp [h0]
    · simp [h0]
  rw [ha]
  refine cell_at h1 _ _ ?_
  rw [← h2, List.getElem?_take] at hj
  split at hj
  · rw [← Array.getElem?_toList]; exact hj
  · cases hj
theorem flat_plain : ∀ l : List Dw, ∀ u ∈ flat l, u.oneCell' = true
  | [], u, h => by simp [flat] at h
  | x :: l, u, h => by
    rw [flat, List.mem_append] at h
    rcases h with h | h
    · exact fl_plain x u h
    · exact flat_plain l u h
attribute [local irreducible] World.cell?
set_option maxRecDepth 100000 in
set_option maxHeartbeats 1600000 in
theorem scopy (B : Nat) (v : Value) (l : List Dw) (w : World) (hv : DSl w B v l) (h0 : 0 < l.length) (hm : l.length ≤ 1048576) :
    Calls Tryz.prog 116 #[v] w fun e w' => ∃ r, e = .returned r ∧ DSl w' w.heap.size r l ∧ Below w.heap.size w w' := by
  obtain ⟨i0, hi, hz0, hz1, hz2⟩ := info_parts infoDw
  obtain ⟨a, cap, rfl, hcap, hr⟩ := hv
  obtain ⟨g, rfl, hg, hrow⟩ := hr h0
  have Hsrc := Lib.hid (row_src (hrow.alloc (.cells #[] 70)))
  have Hown := Lib.hid (own_new (w := w) (n := w.heap.size) (t := 70) rfl)
  have Hp := Lib.hid (flat_plain l)
  have Hl := Lib.hid (flat_len l)
  clear hr hrow
  go_enter Tryz.func116, Tryz.ntmps116
  go_wp2_with (first
    | (at_builtin; refine wpList_append_own _ rfl _ _ 59 rfl w.heap.size 70 i0 (.agg #[.int .i64 0, .int .i64 0, .int .i64 0, .int .i64 0, .int .i64 0]) 5 40 Tryz.underlying59 hi hz0 hz1 hz2 rfl (by decide) _ _ _ rfl Hown.out ⟨g, 0, none⟩ l.length cap (flat l) rfl Hl.out Hsrc.out Hp.out ?d3 ?d4 ?d5 ?_))
  case d3 => unfold maxLen; omega
  case d4 => omega
  case d5 => first | omega | (simp; omega) | simp
  intro v' w4 hown' hgrow _
  have hown2 : w4.ownsRow w.heap.size 70 5 v' l.length (flat l) := by
    have h : w4.ownsRow w.heap.size 70 5 v' l.length ([] ++ flat l) := hown'
    rwa [List.nil_append] at h
  have Hs := Lib.hid (DSl.of_own hown2)
  have HB := Lib.hid (((Below.refl w.heap.size w).alloc (Nat.le_refl _) (.cells #[] 70)).grown hgrow (by simp) (fun q hq => by have := Hown.out.lt q hq; omega))
  clear hown' hown2 hgrow
  go_wp2_with fail
  go_ret
  exact ⟨_, rfl, Hs.out, HB.out⟩
set_option maxRecDepth 100000 in
set_option maxHeartbeats 3200000 in
theorem sapGs_yes (B C : Nat) (vg v : Value) (L : List Gt) (l : List Dw) (w : World) (hg : gtE.Sl w C vg L) (hv : DSl w B v l) (hst : stB l = true) (hL : L.length ≤ 1048576) :
    Calls Tryz.prog 82 #[vg, v] w fun e w' => (∃ r, e = .returned (.tuple #[r, .bool (agsB L l)]) ∧ DSl w' w.heap.size r (agsV L l)) ∧ Below w.heap.size w w' := by
  have hlen := stB_len hst
  have h2 := stB_iff.1 hst
  have hpos : 0 < l.length := by have := qc_len h2.2; omega
  have H1 := Lib.hid (svalidSt B v l w hv (by omega))
  have H2 := Lib.hid (fun W (h : DSl W B v l) => scopy B v l W h hpos (by omega))
  have H3 := Lib.hid (fun (g : Gt) (D : Nat) (u : Value) (o : List Dw) W (h : DSl W D u o) (hm : o.length ≤ 1048576) => sapG D g u o W h hm)
  have Hv := Lib.hid hv
  rw [hst] at H1
  have HO := Lib.hid (show agsO L l = agsF L l by unfold agsO; rw [hst]; rfl)
  have HV := Lib.hid (show agsV L l = (agsO L l).getD [] from rfl)
  have HT := Lib.hid (show agsB L l = (agsO L l).isSome from rfl)
  generalize agsV L l = V at *
  generalize agsB L l = T at *
  generalize agsO L l = O at *
  clear hst h2 hpos hv
  obtain ⟨ag, capg, rfl, hcg, hrg⟩ := hg
  have Hg := Lib.hid hrg
  clear hrg
  go_enter Tryz.func82, Tryz.ntmps82
  go_wp2_with fail
  refine (H1.out).mono ?_
  rintro e w1 ⟨rfl, hb1⟩
  have Hb1 := Lib.hid hb1
  have Hv1 := Lib.hid (Hv.out.below hb1)
  have hs1 := hb1.size
  clear hb1
  go_wp2_with fail
  refine (H2.out _ Hv1.out).mono ?_
  rintro e w2 ⟨u, rfl, hd2, hb2⟩
  have Hb2 := Lib.hid (below_nx Hb1.out hb2)
  have Hd2 := Lib.hid (hd2.mono hs1)
  have Hst := Lib.hid (show agsF (L.drop 0) l = O from HO.out.symm)
  clear hd2 hb2 H1 H2 HO
  go_wp2_with fail
  go_loopg [6, 7] L.length (fun m ov i wr => ∃ (j : Nat) (o : List Dw) (u' : Value), m = L.length - j ∧ j ≤ L.length ∧ i = .int .i64 j ∧ u' = ov ∧ o.length ≤ 16 ∧ Hid (agsF (L.drop j) o = O) ∧ Hid (DSl wr w.heap.size u' o) ∧ Hid (Below w.heap.size w wr))
  case atStart => exact ⟨0, l, u, rfl, Nat.zero_le _, rfl, rfl, hlen, Hst, Hd2, Hb2⟩
  case round =>
    obtain ⟨j, o, u', rfl, hj, rfl, rfl, ho, Hap, Hd, Hb⟩ := hrel
    have hsw := Hb.out.size
    by_cases hlt : j < L.length
    · obtain ⟨gg, rfl, _, hrow⟩ := Hg.out (by omega)
      obtain ⟨g, hx⟩ : ∃ g, L[j]? = some g := ⟨L[j], List.getElem?_eq_getElem hlt⟩
      obtain ⟨c0, c1, c2, c3⟩ := GRow.cells (hrow.below Hb.out hrow.lt) hx
      have hgl := Nat.lt_of_lt_of_le hrow.lt Hb.out.size
      have Hstep := Lib.hid (ags_step (o := o) hx)
      have hvl := agV_len g o
      have Hc := Lib.hid (H3.out g _ _ o wr Hd.out (by omega))
      clear hx hrow
      generalize agV g o = o2 at *
      generalize agB g o = t at *
      go_wp2_with fail
      refine (Hc.out).mono ?_
      rintro e w4 ⟨⟨r, rfl, hd4⟩, hb4⟩
      have Hd4 := Lib.hid (hd4.mono hsw)
      have Hb4 := Lib.hid (below_up Hb.out hb4 hsw)
      have hs4 := Hb4.out.size
      clear hd4 hb4 c0 c1 c2 c3 Hc
      have h := Hstep.out.symm.trans Hap.out
      cases t with
      | true =>
        have Hn := Lib.hid (show agsF (L.drop (j + 1)) o2 = O from h)
        clear h
        go_wp2_with fail
        go_roundg (L.length - (j + 1))
        case measure => omega
        case rel => exact ⟨j + 1, o2, r, rfl, by omega, by go_num, rfl, by omega, Hn, Hd4, Hb4⟩
      | false =>
        have hO : O = none := h.symm
        subst hO
        obtain rfl : V = [] := HV.out
        obtain rfl : T = false := HT.out
        clear h
        go_wp2_with fail
        go_returns
        exact ⟨⟨_, rfl, DSl.nil⟩, by have := Hb4.out; go_grown⟩
    · obtain rfl : j = L.length := by omega
      have hO := Hap.out
      rw [List.drop_of_length_le (Nat.le_refl _)] at hO
      obtain rfl : V = o := HV.out.trans (by rw [← hO]; rfl)
      obtain rfl : T = true := HT.out.trans (by rw [← hO]; rfl)
      clear hO
      go_wp2_with fail
      go_returns
      exact ⟨⟨_, rfl, Hd.out⟩, Hb.out⟩
end Go.Proofs.YtlmiebeffdcfhaaGreat
namespace Go.Proofs.YtlmiebeffdcfhaaGreat
open Go.RowKit
def G1u (w : World) (b : Nat) (g : Gt) (p : Nat) (u : Int) (w' : World) : Prop := w'.cell? ⟨b, 0, none⟩ = some (.int .i64 g.k) ∧ w'.cell? ⟨b, 1, none⟩ = some (.int .i64 g.a) ∧ w'.cell? ⟨b, 2, none⟩ = some (.int .i64 g.b) ∧ w'.cell? ⟨b, 3, none⟩ = some (.int .i64 g.c) ∧ w'.cell? ⟨p, 0, none⟩ = some (.int .i64 u) ∧ b < w'.heap.size ∧ p < w'.heap.size ∧ Below w.heap.size w w'
theorem G1u.drew {w w' : World} {b p : Nat} {g : Gt} {u : Int} (h : G1u w b g p u w') : G1u w b g p u w'.drew := let ⟨b0, b1, b2, b3, b4, z, y, l⟩ := h; ⟨b0, b1, b2, b3, b4, z, y, l.drew⟩
theorem G1u.below {w w1 w2 : World} {b p : Nat} {g : Gt} {u : Int} (h : G1u w b g p u w1) (hb : Below w1.heap.size w1 w2) : G1u w b g p u w2 :=
  let ⟨b0, b1, b2, b3, b4, z, y, l⟩ := h; ⟨cell_below b0 hb z, cell_below b1 hb z, cell_below b2 hb z, cell_below b3 hb z, cell_below b4 hb y, Nat.lt_of_lt_of_le z hb.size, Nat.lt_of_lt_of_le y hb.size, below_up l hb l.size⟩
attribute [local irreducible] World.cell?
set_option maxRecDepth 100000 in
set_option maxHeartbeats 3200000 in
theorem iturn1 (k : Int) (A B C i : Nat) (u : Int) (p : Nat) (Q : Dw) (w : World) (hA : A < 4) (_ : B < 4) (_ : C < 4) (hi : i < 16) (hp : w.heap[p]? = some (.cells #[.int .i64 u] 3 (0, 0))) (hQ : dPh (IntKind.i64.wrap (u * bI (bitN i A))) = Q) :
    Calls Tryz.prog 157 #[(.agg #[.int .i64 ((Gt.mk k A B C)).k, .int .i64 ((Gt.mk k A B C)).a, .int .i64 ((Gt.mk k A B C)).b, .int .i64 ((Gt.mk k A B C)).c]), .int .i64 i, .pointer (some ⟨p, 0, none⟩)] w fun e w' => ∃ v, e = .returned v ∧ contE.Sl w' w.heap.size v [(i, Q)] ∧ Below w.heap.size w w' := by
  have HX := Lib.hid (heap_alloc_new w (.cells #[.int .i64 ((Gt.mk k A B C)).k, .int .i64 ((Gt.mk k A B C)).a, .int .i64 ((Gt.mk k A B C)).b, .int .i64 ((Gt.mk k A B C)).c] 25))
  obtain ⟨c0, c1, c2, c3⟩ := blk_cells HX.out
  have c4 := cell_at (alloc_blk (.cells #[.int .i64 ((Gt.mk k A B C)).k, .int .i64 ((Gt.mk k A B C)).a, .int .i64 ((Gt.mk k A B C)).b, .int .i64 ((Gt.mk k A B C)).c] 25) hp) 0 _ rfl
  have hpl := lt_of_block (alloc_blk (.cells #[.int .i64 ((Gt.mk k A B C)).k, .int .i64 ((Gt.mk k A B C)).a, .int .i64 ((Gt.mk k A B C)).b, .int .i64 ((Gt.mk k A B C)).c] 25) hp)
  have hS : G1u w w.heap.size (Gt.mk k A B C) p u (w.alloc (.cells #[.int .i64 ((Gt.mk k A B C)).k, .int .i64 ((Gt.mk k A B C)).a, .int .i64 ((Gt.mk k A B C)).b, .int .i64 ((Gt.mk k A B C)).c] 25)) := ⟨c0, c1, c2, c3, c4, by simp, hpl, by go_grown⟩
  have Hb0 := Lib.hid (show Below w.heap.size w (w.alloc (.cells #[.int .i64 ((Gt.mk k A B C)).k, .int .i64 ((Gt.mk k A B C)).a, .int .i64 ((Gt.mk k A B C)).b, .int .i64 ((Gt.mk k A B C)).c] 25)) by go_grown)
  have Hba := Lib.hid (fun W => ibit (i := i) (q := A) hi hA rfl W)
  clear hp
  generalize bI (bitN i A) = ba at *
  go_enter Tryz.func157, Tryz.ntmps157
  go_upto_region 1 with fail
  go_region_held3 (fun w' => w'.cell? ⟨w.heap.size, 0, none⟩ = some (.int .i64 k) ∧ w'.cell? ⟨w.heap.size, 1, none⟩ = some (.int .i64 (A : Int)) ∧ w'.cell? ⟨w.heap.size, 2, none⟩ = some (.int .i64 (B : Int)) ∧ w'.cell? ⟨w.heap.size, 3, none⟩ = some (.int .i64 (C : Int)) ∧ w'.cell? ⟨p, 0, none⟩ = some (.int .i64 u) ∧ w.heap.size < w'.heap.size ∧ p < w'.heap.size ∧ Below w.heap.size w w') (first | (show G1u w w.heap.size (Gt.mk k A B C) p u _; (with_reducible exact hS.drew)) | (show G1u w w.heap.size (Gt.mk k A B C) p u _; (with_reducible refine G1u.below ?_ hbR); first | assumption | exact ⟨by assumption, by assumption, by assumption, by assumption, by assumption, by assumption, by assumption, by assumption⟩))
    (first | (go_at_call 42; refine (Hba.out _).mono ?_; rintro e wR ⟨rfl, rfl⟩) | (go_at_call 156; refine (imove (J := i) (P := Q) (by first | assumption | rfl) (by first | assumption | rfl) _).mono ?_; rintro e wQ ⟨v, rfl, hd, hbM⟩; have HD := Lib.hid hd; have hbR := hbM))
  all_goals
    have Hd := Lib.hid (HD.out.mono (C := w.heap.size) (by simp))
    have Hb1 := Lib.hid (below_nx Hb0.out.drew hbM)
  all_goals go_wp2_with fail
  all_goals go_ret
  all_goals exact ⟨_, rfl, Hd.out, Hb1.out⟩
set_option maxRecDepth 100000 in
set_option maxHeartbeats 3200000 in
theorem iexch (k : Int) (A B C i : Nat) (w : World) (hA : A < 4) (hB : B < 4) (_ : C < 4) (hi : i < 16) :
    Calls Tryz.prog 149 #[(.agg #[.int .i64 ((Gt.mk k A B C)).k, .int .i64 ((Gt.mk k A B C)).a, .int .i64 ((Gt.mk k A B C)).b, .int .i64 ((Gt.mk k A B C)).c]), .int .i64 i] w fun e w' => ∃ v, e = .returned v ∧ contE.Sl w' w.heap.size v [(if bitN i A != bitN i B then flipN (flipN i A) B else i, dPh 0)] ∧ Below w.heap.size w w' := by
  have HX := Lib.hid (heap_alloc_new w (.cells #[.int .i64 ((Gt.mk k A B C)).k, .int .i64 ((Gt.mk k A B C)).a, .int .i64 ((Gt.mk k A B C)).b, .int .i64 ((Gt.mk k A B C)).c] 25))
  obtain ⟨c0, c1, c2, c3⟩ := blk_cells HX.out
  have hS : G1 w w.heap.size (Gt.mk k A B C) (w.alloc (.cells #[.int .i64 ((Gt.mk k A B C)).k, .int .i64 ((Gt.mk k A B C)).a, .int .i64 ((Gt.mk k A B C)).b, .int .i64 ((Gt.mk k A B C)).c] 25)) := ⟨c0, c1, c2, c3, by simp, by go_grown⟩
  have Hb0 := Lib.hid (show Below w.heap.size w (w.alloc (.cells #[.int .i64 ((Gt.mk k A B C)).k, .int .i64 ((Gt.mk k A B C)).a, .int .i64 ((Gt.mk k A B C)).b, .int .i64 ((Gt.mk k A B C)).c] 25)) by go_grown)
  have Hba := Lib.hid (fun W => ibit (i := i) (q := A) hi hA rfl W)
  have Hbb := Lib.hid (fun W => ibit (i := i) (q := B) hi hB rfl W)
  have hx := exW ⟨i, hi⟩ (bitN i A) (bitN i B) ⟨A, hA⟩ ⟨B, hB⟩
  generalize (if (bitN i A != bitN i B) = true then flipN (flipN i A) B else i) = j at *
  obtain ⟨P, hP⟩ : ∃ P, dPh 0 = P := ⟨_, rfl⟩
  rw [hP]
  generalize bI (bitN i A) = ba at *
  generalize bI (bitN i B) = bb at *
  go_enter Tryz.func149, Tryz.ntmps149
  go_upto_region 1 with fail
  go_region_held3 (fun w' => w'.cell? ⟨w.heap.size, 0, none⟩ = some (.int .i64 k) ∧ w'.cell? ⟨w.heap.size, 1, none⟩ = some (.int .i64 (A : Int)) ∧ w'.cell? ⟨w.heap.size, 2, none⟩ = some (.int .i64 (B : Int)) ∧ w'.cell? ⟨w.heap.size, 3, none⟩ = some (.int .i64 (C : Int)) ∧ w.heap.size < w'.heap.size ∧ Below w.heap.size w w') (first | (show G1 w w.heap.size (Gt.mk k A B C) _; (with_reducible exact hS.drew)) | (show G1 w w.heap.size (Gt.mk k A B C) _; (with_reducible refine G1.below ?_ hbR); first | assumption | exact ⟨by assumption, by assumption, by assumption, by assumption, by assumption, by assumption⟩))
    (first | (go_at_call 42; refine (Hba.out _).mono ?_; rintro e wR ⟨rfl, rfl⟩) | (go_at_call 42; refine (Hbb.out _).mono ?_; rintro e wR ⟨rfl, rfl⟩))
  have hS := hS.drew
  go_upto_region 2 with fail
  go_region_held3 (fun w' => w'.cell? ⟨w.heap.size, 0, none⟩ = some (.int .i64 k) ∧ w'.cell? ⟨w.heap.size, 1, none⟩ = some (.int .i64 (A : Int)) ∧ w'.cell? ⟨w.heap.size, 2, none⟩ = some (.int .i64 (B : Int)) ∧ w'.cell? ⟨w.heap.size, 3, none⟩ = some (.int .i64 (C : Int)) ∧ w.heap.size < w'.heap.size ∧ Below w.heap.size w w') (first | (show G1 w w.heap.size (Gt.mk k A B C) _; (with_reducible exact hS.drew)) | (show G1 w w.heap.size (Gt.mk k A B C) _; (with_reducible refine G1.below ?_ hbR); first | assumption | exact ⟨by assumption, by assumption, by assumption, by assumption, by assumption, by assumption⟩))
    (first | (go_at_call 156; refine (imove (J := j) (P := P) (by first | assumption | rfl) (by first | assumption | rfl) _).mono ?_; rintro e wQ ⟨v, rfl, hd, hbM⟩; have HD := Lib.hid hd; have hbR := hbM))
  all_goals
    have Hd := Lib.hid (HD.out.mono (C := w.heap.size) (by simp))
    have Hb1 := Lib.hid (below_nx Hb0.out.drew.drew hbM)
  all_goals go_wp2_with fail
  all_goals go_ret
  all_goals exact ⟨_, rfl, Hd.out, Hb1.out⟩
end Go.Proofs.YtlmiebeffdcfhaaGreat
