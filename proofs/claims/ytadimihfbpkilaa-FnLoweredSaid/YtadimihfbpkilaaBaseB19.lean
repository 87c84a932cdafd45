/- BaseB19: several of our texts in one: AgN ApM AgM CmA LyN. -/
import Derived.Test.YtadimihfbpkilaaAgV
import Derived.Test.YtadimihfbpkilaaBaseB17
import Derived.Test.YtadimihfbpkilaaBaseB15
import Derived.Test.YtadimihfbpkilaaBaseB18
namespace Go.Proofs.Ytadimihfbpkilaa
/-- A gate of kind k and its inverse send an amplitude back to its place, twice as large. -/
def backB (k : Int) (A B C : Nat) : Bool := (List.range 16).all fun i => (List.range 16).all fun j => decide (cfs (goesL k A B C i) (fun m => cf (goesL (invK k) A B C m) j) = if i = j then twoZ else .zero)
theorem back_1 : ([1, 2, 3, 4, 5, 6, 7, 8] : List Int).all (fun k => (List.range 4).all fun A => backB k A 0 0) = true := by decide +kernel
theorem back_2 : ([9, 10, 11] : List Int).all (fun k => (List.range 4).all fun A => (List.range 4).all fun B => A == B || backB k A B 0) = true := by decide +kernel
theorem back_3 : ((List.range 4).all fun A => (List.range 4).all fun B => (List.range 4).all fun C => A == B || C == A || C == B || backB 12 A B C) = true := by decide +kernel
end Go.Proofs.Ytadimihfbpkilaa
namespace Go.Proofs.Ytadimihfbpkilaa
open Go.RowKit
theorem agV_len2 {g : Gt} {l : List Dw} (h : agB g l = true) : (agV g l).length = l.length := by
  unfold agB at h
  unfold agV
  cases ho : agO g l with
  | none => rw [ho] at h; cases h
  | some o =>
    unfold agO at ho
    split at ho
    · have := apO_len ho
      rw [List.length_replicate] at this
      simpa using this
    · cases ho
theorem agsF_len : ∀ {L : List Gt} {o o' : List Dw}, agsF L o = some o' → o'.length = o.length
  | [], o, o', h => by injection h with h; rw [h]
  | g :: L, o, o', h => by
    rw [agsF] at h
    split at h
    · rename_i hb
      rw [agsF_len h, agV_len2 hb]
    · cases h
theorem agsV_len {L : List Gt} {l : List Dw} (h : agsB L l = true) : (agsV L l).length = l.length := by
  unfold agsB at h
  unfold agsV
  cases ho : agsO L l with
  | none => rw [ho] at h; cases h
  | some o =>
    unfold agsO at ho
    split at ho
    · simpa using agsF_len ho
    · cases ho
theorem agsV_no {L : List Gt} {l : List Dw} (h : agsB L l = false) : agsV L l = [] := by
  unfold agsB at h
  unfold agsV
  cases ho : agsO L l with
  | none => rfl
  | some o => rw [ho] at h; cases h
/-- The columns of a circuit's map on n qubits, and whether each is found. -/
def cirC (L : List Gt) (n : Nat) : List (List Dw) := (List.range (2 ^ n)).map fun (i : Nat) => agsV L (basisL n i)
def cirB (L : List Gt) (n : Nat) : Bool := (List.range (2 ^ n)).all fun (i : Nat) => agsB L (basisL n i)
def cirM (L : List Gt) (n : Nat) : List (List Dw) := if cirB L n then colsM (cirC L n) else []
theorem cirC_len (L : List Gt) (n : Nat) : (cirC L n).length = 2 ^ n := by rw [cirC, List.length_map, List.length_range]
theorem cirC_step {L : List Gt} {n j : Nat} (hj : j < 2 ^ n) : (cirC L n).take (j + 1) = (cirC L n).take j ++ [agsV L (basisL n j)] := by
  have hc : (cirC L n)[j]? = some (agsV L (basisL n j)) := by unfold cirC; rw [List.getElem?_map, List.getElem?_range hj]; rfl
  rw [List.take_add_one, hc]
  rfl
theorem basis_len {n j : Nat} (h1 : 1 ≤ n) (h4 : n ≤ 4) (hj : j < 2 ^ n) : (basisL n j).length = 2 ^ n := by
  have hj2 : (j : Int) ≤ 2 ^ (n : Int).toNat - 1 := by
    rw [Int.toNat_natCast]
    rcases (show n = 1 ∨ n = 2 ∨ n = 3 ∨ n = 4 by omega) with rfl | rfl | rfl | rfl
    all_goals (simp at hj ⊢; omega)
  unfold basisL
  rw [if_pos ⟨by omega, by omega, by omega, hj2⟩]
  rw [List.length_set, List.length_replicate, Int.toNat_natCast]
attribute [local irreducible] World.cell?
set_option maxRecDepth 100000 in
set_option maxHeartbeats 1600000 in
theorem sapGs (B C : Nat) (vg v : Value) (L : List Gt) (l : List Dw) (w : World) (hg : gtE.Sl w C vg L) (hv : DSl w B v l) (hm : l.length ≤ 1048576) (hL : L.length ≤ 1048576) :
    Calls Try.prog 34 #[vg, v] w fun e w' => (∃ r, e = .returned (.tuple #[r, .bool (agsB L l)]) ∧ DSl w' w.heap.size r (agsV L l)) ∧ Below w.heap.size w w' := by
  cases hst : stB l with
  | true => exact sapGs_yes B C vg v L l w hg hv hst hL
  | false =>
    have h0 : agsO L l = none := by unfold agsO; rw [hst]; rfl
    rw [show agsB L l = false by unfold agsB; rw [h0]; rfl, show agsV L l = [] by unfold agsV; rw [h0]; rfl]
    have H1 := Lib.hid (svalidSt B v l w hv hm)
    rw [hst] at H1
    clear hst h0 hg hv
    go_enter Try.func34, Try.ntmps34
    go_wp2_with fail
    refine (H1.out).mono ?_
    rintro e w1 ⟨rfl, hb1⟩
    have Hb1 := Lib.hid hb1
    have hs1 := hb1.size
    clear hb1
    go_wp2_with fail
    go_returns
    exact ⟨⟨_, rfl, DSl.nil⟩, by have := Hb1.out; go_grown⟩
end Go.Proofs.Ytadimihfbpkilaa
namespace Go.Proofs.Ytadimihfbpkilaa
/-- What a valid gate's qubits are. -/
theorem gtB_kinds {g : Gt} {n : Int} (h : gtB g n = true) : (1 ≤ g.k ∧ g.k ≤ 8 ∧ g.b = 0 ∧ g.c = 0) ∨ (9 ≤ g.k ∧ g.k ≤ 11 ∧ g.b ≠ g.a ∧ g.c = 0) ∨ (g.k = 12 ∧ g.b ≠ g.a ∧ g.c ≠ g.a ∧ g.c ≠ g.b) := by
  have hp := (gtB_parts h).2.1
  unfold gtB at h
  simp only [Bool.and_eq_true, decide_eq_true_eq] at h
  obtain ⟨hall, -, -⟩ := h
  rw [List.all_eq_true] at hall
  have h1 := hall 1 (List.mem_range.2 (by decide))
  have h2 := hall 2 (List.mem_range.2 (by decide))
  unfold gtOk gqs at h1 h2
  rcases (show (1 ≤ g.k ∧ g.k ≤ 8) ∨ (9 ≤ g.k ∧ g.k ≤ 11) ∨ g.k = 12 by omega) with k | k | k
  · have ha : ar g.k = 1 := if_pos k
    rw [ha, if_pos (by decide)] at h1 h2
    exact .inl ⟨k.1, k.2, of_decide_eq_true h1, of_decide_eq_true h2⟩
  · have ha : ar g.k = 2 := by rw [ar, if_neg (by omega), if_pos k]
    rw [ha, if_neg (by decide)] at h1
    rw [ha, if_pos (by decide)] at h2
    rw [Bool.and_eq_true] at h1
    exact .inr (.inl ⟨k.1, k.2, by simpa using h1.2, of_decide_eq_true h2⟩)
  · have ha : ar g.k = 3 := by rw [k]; rfl
    rw [ha, if_neg (by decide)] at h1 h2
    rw [Bool.and_eq_true] at h1 h2
    have h3 : ¬ (g.c = g.a ∨ g.c = g.b) := by simpa using h2.2
    exact .inr (.inr ⟨k, by simpa using h1.2, fun e => h3 (.inl e), fun e => h3 (.inr e)⟩)
theorem goes_back {g : Gt} {n : Int} (h : gtB g n = true) {i j : Nat} (hi : i < 16) (hj : j < 16) : cfs (goesG g i) (fun m => cf (goesG (invG g) m) j) = if i = j then twoZ else .zero := by
  obtain ⟨hn, -, ha, hb, hc⟩ := gtB_parts h
  have hk := gtB_kinds h
  have key : backB g.k g.a.toNat g.b.toNat g.c.toNat = true := by
    rcases hk with ⟨k1, k2, b0, c0⟩ | ⟨k1, k2, hab, c0⟩ | ⟨k, hab, hca, hcb⟩
    · have h1 := List.all_eq_true.1 back_1 g.k (by simp; omega)
      have h2 := List.all_eq_true.1 h1 g.a.toNat (List.mem_range.2 (by omega))
      rw [b0, c0]; exact h2
    · have h1 := List.all_eq_true.1 back_2 g.k (by simp; omega)
      have h2 := List.all_eq_true.1 (List.all_eq_true.1 h1 g.a.toNat (List.mem_range.2 (by omega))) g.b.toNat (List.mem_range.2 (by omega))
      rw [Bool.or_eq_true, beq_iff_eq] at h2
      rw [c0]; exact h2.resolve_left (by omega)
    · have h2 := List.all_eq_true.1 (List.all_eq_true.1 (List.all_eq_true.1 back_3 g.a.toNat (List.mem_range.2 (by omega))) g.b.toNat (List.mem_range.2 (by omega))) g.c.toNat (List.mem_range.2 (by omega))
      rw [Bool.or_eq_true, Bool.or_eq_true, Bool.or_eq_true, beq_iff_eq, beq_iff_eq, beq_iff_eq] at h2
      rw [k]
      exact h2.resolve_left (by omega)
  exact of_decide_eq_true (List.all_eq_true.1 (List.all_eq_true.1 key i (List.mem_range.2 hi)) j (List.mem_range.2 hj))
/-- One place and a phase, or the two places of a GateH. -/
theorem goesL_form (k : Int) (A B C i : Nat) : (∃ (a : Nat) (m : Int), goesL k A B C i = [(a, dPh m)]) ∨ goesL k A B C i = [(lowN i A, isV 1), (flipN (lowN i A) A, if bitN i A then dNegV (isV 1) else isV 1)] := by
  have hp : ∀ (a : Nat) (t : Bool) (m : Int), ∃ (b : Nat) (n : Int), [(a, if t = true then dPh m else dPh 0)] = [(b, dPh n)] := fun a t m => by
    cases t
    · exact ⟨a, 0, rfl⟩
    · exact ⟨a, m, rfl⟩
  unfold goesL
  by_cases h1 : k = 1
  · rw [if_pos h1]; exact .inl (⟨_, 0, rfl⟩)
  rw [if_neg h1]
  by_cases h2 : k = 2
  · rw [if_pos h2]; exact .inl (⟨_, _, rfl⟩)
  rw [if_neg h2]
  by_cases h3 : k = 3
  · rw [if_pos h3]; exact .inl (hp _ _ _)
  rw [if_neg h3]
  by_cases h5 : k = 5
  · rw [if_pos h5]; exact .inl (hp _ _ _)
  rw [if_neg h5]
  by_cases h6 : k = 6
  · rw [if_pos h6]; exact .inl (hp _ _ _)
  rw [if_neg h6]
  by_cases h7 : k = 7
  · rw [if_pos h7]; exact .inl (hp _ _ _)
  rw [if_neg h7]
  by_cases h8 : k = 8
  · rw [if_pos h8]; exact .inl (hp _ _ _)
  rw [if_neg h8]
  by_cases h9 : k = 9
  · rw [if_pos h9]; exact .inl (⟨_, 0, rfl⟩)
  rw [if_neg h9]
  by_cases h10 : k = 10
  · rw [if_pos h10]; exact .inl (hp _ _ _)
  rw [if_neg h10]
  by_cases h12 : k = 12
  · rw [if_pos h12]; exact .inl (⟨_, 0, rfl⟩)
  rw [if_neg h12]
  by_cases h11 : k = 11
  · rw [if_pos h11]; exact .inl (⟨_, 0, rfl⟩)
  rw [if_neg h11]
  exact .inr rfl
theorem goesL_e (k : Int) (A B C i : Nat) : ∀ p ∈ goesL k A B C i, p.2.ok ∧ p.2.e.toNat ≤ 1 := by
  have hI : (isV 1).ok ∧ (isV 1).e.toNat ≤ 1 := by decide
  have hN : (dNegV (isV 1)).ok ∧ (dNegV (isV 1)).e.toNat ≤ 1 := by decide
  intro p hp
  rcases goesL_form k A B C i with ⟨a, m, e⟩ | e
  · rw [e, List.mem_singleton] at hp
    subst hp
    exact ⟨dPh_ok m, (by decide : (0 : Int).toNat ≤ 1)⟩
  · rw [e] at hp
    rcases List.mem_cons.1 hp with rfl | hp
    · exact hI
    · rw [List.mem_singleton] at hp
      subst hp
      cases bitN i A
      · exact hI
      · exact hN
theorem goesG_e {g : Gt} {N : Nat} (hg : gtB g (qc N) = true) : ∀ i, i < N → ∀ p ∈ goesG g i, p.1 < N ∧ p.2.e.toNat ≤ 1 := fun _ hi p hp => ⟨goesG_in hg hi p hp, (goesL_e _ _ _ _ _ p hp).2⟩
theorem gtB_inv {g : Gt} {n : Int} (h : gtB g n = true) : gtB (invG g) n = true := by
  unfold gtB at h ⊢
  have e : ∀ j, gtOk (invG g) (IntKind.i64.wrap (n - 1)) j = gtOk g (IntKind.i64.wrap (n - 1)) j := fun j => by
    unfold gtOk gqs invG
    simp only [ar_invK]
  rw [show (invG g).k = invK g.k from rfl, ar_invK]
  rwa [show (gtOk (invG g) (IntKind.i64.wrap (n - 1))) = gtOk g (IntKind.i64.wrap (n - 1)) from funext e]
theorem agO_some {g : Gt} {v w : List Dw} (h : agO g v = some w) : stB v = true ∧ gtB g (qc v.length) = true ∧ apO (goesG g) 0 v (List.replicate v.length .zero) = some w := by
  unfold agO at h
  split at h
  · rename_i hb
    rw [Bool.and_eq_true] at hb
    exact ⟨hb.1, hb.2, h⟩
  · cases h
theorem agO_val {g : Gt} {v w : List Dw} (h : agO g v = some w) : w.length = v.length ∧ (∀ y ∈ w, y.ok) ∧ stB w = true := by
  obtain ⟨h1, h2, h3⟩ := agO_some h
  obtain ⟨l, o, -⟩ := ap_zero (goesG_e h2) h3
  exact ⟨l, o, stB_iff.2 ⟨o, by rw [l]; exact (stB_iff.1 h1).2⟩⟩
/-- A gate and its inverse cancel. -/
theorem ag_back {g : Gt} {v w b : List Dw} (h : agO g v = some w) (k : agO (invG g) w = some b) : b = v := by
  obtain ⟨h1, h2, h3⟩ := agO_some h
  obtain ⟨k1, k2, k3⟩ := agO_some k
  obtain ⟨l, -, -⟩ := agO_val h
  have h16 := qc_len (stB_iff.1 h1).2
  rw [l] at k2
  exact ap_back (stB_iff.1 h1).1 (goesG_e h2) (goesG_e k2) (fun i hi j hj => goes_back h2 (by omega) (by omega)) h3 k3
/-- A gate at a basis state. -/
theorem send_one : ∀ {L : List (Nat × Dw)} {o : List Dw}, (∀ p ∈ L, p.2.ok ∧ o.getD p.1 .zero = .zero ∧ p.1 < o.length) → L.Pairwise (fun p q => p.1 ≠ q.1) → ∃ o', sendO oneD L o = some o'
  | [], o, _, _ => ⟨o, rfl⟩
  | p :: r, o, h, hd => by
    obtain ⟨h1, h2, h3⟩ := h p (List.mem_cons_self ..)
    have hm := dmul_one h1
    rw [← dMulB_comm, ← dMulV_comm] at hm
    have ha := dadd_zero h1
    rw [List.pairwise_cons] at hd
    rw [sendO, h2, hm.1, hm.2, ha.1, ha.2, Bool.and_self, if_pos rfl]
    refine send_one (fun q hq => ?_) hd.2
    obtain ⟨q1, q2, q3⟩ := h q (List.mem_cons_of_mem _ hq)
    refine ⟨q1, ?_, by rw [List.length_set]; exact q3⟩
    rw [getD_set _ _ _ _ h3, if_neg (hd.1 q hq), q2]
theorem ap_skip (G : Nat → List (Nat × Dw)) (o : List Dw) : ∀ m i, apO G i (List.replicate m .zero) o = some o
  | 0, _ => rfl
  | m + 1, i => by rw [List.replicate_succ, apO, if_pos rfl]; exact ap_skip G o m (i + 1)
theorem ap_basis {G : Nat → List (Nat × Dw)} {o o' : List Dw} : ∀ (m j i : Nat), j < m → sendO oneD (G (i + j)) o = some o' → apO G i ((List.replicate m .zero).set j oneD) o = some o'
  | 0, _, _, h, _ => absurd h (Nat.not_lt_zero _)
  | m + 1, 0, i, _, h => by
    rw [List.replicate_succ, List.set_cons_zero, apO, if_neg (by decide), show G i = G (i + 0) from rfl, h]
    exact ap_skip G o' m (i + 1)
  | m + 1, j + 1, i, hj, h => by
    rw [List.replicate_succ, List.set_cons_succ, apO, if_pos rfl]
    exact ap_basis m j (i + 1) (by omega) (by rw [show i + 1 + j = i + (j + 1) by omega]; exact h)
theorem low_flip : ∀ i : Fin 16, ∀ q : Fin 4, lowN i.val q.val ≠ flipN (lowN i.val q.val) q.val := by decide +kernel
theorem goesL_apart {k : Int} {A B C i : Nat} (hi : i < 16) (hA : A < 4) : (goesL k A B C i).Pairwise (fun p q => p.1 ≠ q.1) := by
  rcases goesL_form k A B C i with ⟨a, m, e⟩ | e
  · rw [e]; exact List.pairwise_singleton _ _
  · rw [e, List.pairwise_cons]
    refine ⟨fun q hq => ?_, List.pairwise_singleton _ _⟩
    rw [List.mem_singleton] at hq
    subst hq
    exact low_flip ⟨i, hi⟩ ⟨A, hA⟩
theorem ag_basis {g : Gt} {N i : Nat} (hg : gtB g (qc N) = true) (hN : 0 < qc N) (hi : i < N) : ∃ o, agO g (basisL (qc N) (i : Int)) = some o := by
  obtain ⟨h1, h2⟩ := basis_st hN hi
  have h16 := qc_len hN
  obtain ⟨hn, -, ha, -, -⟩ := gtB_parts hg
  obtain ⟨o, ho⟩ := send_one (L := goesG g i) (o := List.replicate N .zero) (fun p hp => ⟨(goesL_e _ _ _ _ _ p hp).1, rep_getD _ _, by rw [List.length_replicate]; exact goesG_in hg hi p hp⟩) (goesL_apart (by omega) (by omega))
  refine ⟨o, ?_⟩
  unfold agO
  rw [h1, h2, hg, Bool.and_self, if_pos rfl, basis_eq hN hi]
  exact ap_basis N i 0 hi (by rw [Nat.zero_add]; exact ho)
/-- GateMatrix: the columns, and the matrix. -/
def gmL (g : Gt) (n : Int) : List (List Dw) := (List.range (2 ^ n.toNat)).map fun (i : Nat) => agV g (basisL n (i : Int))
def gmM (g : Gt) (n : Int) : List (List Dw) := if gtB g n then colsM (gmL g n) else []
theorem gmL_len (g : Gt) (n : Int) : (gmL g n).length = 2 ^ n.toNat := by rw [gmL, List.length_map, List.length_range]
theorem agV_of {g : Gt} {v o : List Dw} (h : agO g v = some o) : agV g v = o := by unfold agV; rw [h]; rfl
theorem agB_of {g : Gt} {v o : List Dw} (h : agO g v = some o) : agB g v = true := by unfold agB; rw [h]; rfl
theorem qc_of {n : Int} (h : 1 ≤ n ∧ n ≤ 4) : qc (2 ^ n.toNat) = n := by
  rcases (show n = 1 ∨ n = 2 ∨ n = 3 ∨ n = 4 by omega) with rfl | rfl | rfl | rfl <;> decide
theorem gmL_rows {g : Gt} {n : Int} (hg : gtB g n = true) : ∀ r ∈ gmL g n, r.length = 2 ^ n.toNat := by
  have hn := (gtB_parts hg).1
  have hq := qc_of hn
  intro r hr
  obtain ⟨i, hi, rfl⟩ := List.mem_map.1 hr
  have hi := List.mem_range.1 hi
  obtain ⟨o, ho⟩ := ag_basis (g := g) (N := 2 ^ n.toNat) (by rw [hq]; exact hg) (by rw [hq]; omega) hi
  rw [hq] at ho
  rw [agV_of ho, (agO_val ho).1]
  have hb := (basis_st (n := 2 ^ n.toNat) (by rw [hq]; omega) hi).2
  rwa [hq] at hb
theorem vl_one : vl oneD = rootN 60 ⟨1, 0, 0, 0⟩ := rfl
theorem one_mul' (x : Zw) : Zw.mul ⟨1, 0, 0, 0⟩ x = x := by
  apply Zw.ext4 <;> simp [Zw.mul]
/-- A gate's matrix applied is the gate applied. -/
theorem gm_app {g : Gt} {v w : List Dw} (h : agO g v = some w) (hb : appB (gmM g (qc v.length)) v = true) : appL (gmM g (qc v.length)) v = w := by
  obtain ⟨h1, h2, h3⟩ := agO_some h
  obtain ⟨lw, -, -⟩ := agO_val h
  have hq := (stB_iff.1 h1).2
  have hp := (qc_pow hq).2.2
  have hM : gmM g (qc v.length) = colsM (gmL g (qc v.length)) := if_pos h2
  have hL : (gmL g (qc v.length)).length = v.length := by rw [gmL_len, ← hp]
  rw [appL, if_pos hb]
  rw [hM] at hb ⊢
  refine getD_eq ?_ fun k hk => ?_
  · rw [List.length_map, colsM_len, hL, lw]
  · rw [lw] at hk
    have hk2 : k < (gmL g (qc v.length)).length := by omega
    have hr : (colsM (gmL g (qc v.length)))[k]? = some (col (gmL g (qc v.length)) k) := by
      rw [colsM, List.getElem?_map, List.getElem?_range hk2]; rfl
    unfold appB at hb
    rw [Bool.and_eq_true, List.all_eq_true] at hb
    have hrow := hb.2 _ (List.mem_of_getElem? hr)
    rw [List.getD_eq_getElem?_getD, List.getElem?_map, hr]
    show rowV (col (gmL g (qc v.length)) k) v = _
    unfold rowB at hrow
    obtain ⟨t, ht⟩ := Option.isSome_iff_exists.1 hrow
    unfold rowV
    rw [ht]
    refine ap_row (goesG_e h2) h3 hk (by rw [col_len, hL]) (fun i hi => ?_) ht
    obtain ⟨o, ho⟩ := ag_basis h2 hq hi
    have hcol : (col (gmL g (qc v.length)) k).getD i .zero = o.getD k .zero := by
      rw [col, List.getD_eq_getElem?_getD, List.getElem?_map, gmL, List.getElem?_map, List.getElem?_range (by rw [← hp]; exact hi)]
      show (agV g (basisL (qc v.length) (i : Int))).getD k .zero = _
      rw [agV_of ho]
    obtain ⟨b1, b2, b3⟩ := agO_some ho
    obtain ⟨c1, c2⟩ := basis_st hq hi
    rw [c2] at b2
    obtain ⟨-, -, e⟩ := ap_zero (by rw [c2]; exact goesG_e b2) b3
    rw [hcol, e, c2, sumZ_one _ hi fun a _ ha => ?_]
    · rw [basis_eq hq hi, getD_set _ _ _ _ (by rw [List.length_replicate]; exact hi), if_pos rfl, vl_one, ← rootN_mul, one_mul']
    · rw [basis_eq hq hi, getD_set _ _ _ _ (by rw [List.length_replicate]; exact hi), if_neg (fun x => ha x.symm), rep_getD, vl_zero, zero_mul']
/-- Gates one behind the other: at any place the first and then the rest. -/
theorem agsF_app : ∀ (L M : List Gt) (v : List Dw), agsF (L ++ M) v = (agsF L v).bind (agsF M)
  | [], M, v => rfl
  | g :: L, M, v => by
    rw [List.cons_append, agsF, agsF]
    split
    · exact agsF_app L M _
    · rfl
theorem agsF_st : ∀ {L : List Gt} {v w : List Dw}, agsF L v = some w → stB v = true → stB w = true
  | [], v, w, h, hs => by
    rw [agsF] at h
    cases h
    exact hs
  | g :: L, v, w, h, hs => by
    rw [agsF] at h
    split at h
    · rename_i hb
      cases ho : agO g v with
      | none => unfold agB at hb; rw [ho] at hb; cases hb
      | some o =>
        rw [agV_of ho] at h
        exact agsF_st h (agO_val ho).2.2
    · cases h
theorem agV_oks (g : Gt) (v : List Dw) : ∀ y ∈ agV g v, y.ok := by
  unfold agV
  cases h : agO g v with
  | none => intro y hy; cases hy
  | some o => exact (agO_val h).2.1
theorem agsV_ok' (L : List Gt) (v : List Dw) : ∀ y ∈ agsV L v, y.ok := by
  unfold agsV
  cases h : agsO L v with
  | none => intro y hy; cases hy
  | some o =>
    unfold agsO at h
    split at h
    · rename_i hs
      exact (stB_iff.1 (agsF_st h hs)).1
    · cases h
theorem ags_split {L : List Gt} {v w : List Dw} (k : Nat) (h : agsO L v = some w) : ∃ u, agsO (L.take k) v = some u ∧ agsO (L.drop k) u = some w := by
  unfold agsO at h
  split at h
  · rename_i hs
    rw [← List.take_append_drop k L, agsF_app] at h
    cases hu : agsF (L.take k) v with
    | none => rw [hu] at h; cases h
    | some u =>
      rw [hu] at h
      refine ⟨u, by unfold agsO; rw [if_pos hs, hu], ?_⟩
      unfold agsO
      rw [if_pos (agsF_st hu hs)]
      exact h
  · cases h
theorem agB_some {g : Gt} {l : List Dw} (h : agB g l = true) : ∃ o, agO g l = some o := Option.isSome_iff_exists.1 h
theorem agV_none {g : Gt} {l : List Dw} (h : agB g l = false) : agV g l = [] := by
  unfold agB at h
  unfold agV
  cases e : agO g l with
  | none => rfl
  | some o => rw [e] at h; cases h
theorem agB_valid {g : Gt} {l : List Dw} (h : agB g l = true) : gtB g (qc l.length) = true := by
  obtain ⟨o, ho⟩ := agB_some h
  exact (agO_some ho).2.1
theorem ag_backV {g : Gt} {l : List Dw} (k : agB g l = true) (h : agB (invG g) (agV g l) = true) : agV (invG g) (agV g l) = l := by
  obtain ⟨o, ho⟩ := agB_some k
  rw [agV_of ho] at h ⊢
  obtain ⟨b, hb⟩ := agB_some h
  rw [agV_of hb]
  exact ag_back ho hb
theorem gm_appV {g : Gt} {l : List Dw} (k : agB g l = true) (h : appB (gmM g (qc l.length)) l = true) : appL (gmM g (qc l.length)) l = agV g l := by
  obtain ⟨o, ho⟩ := agB_some k
  rw [agV_of ho]
  exact gm_app ho h
/-- Lists of gates applied. -/
theorem agsB_some {L : List Gt} {l : List Dw} (h : agsB L l = true) : ∃ o, agsO L l = some o := Option.isSome_iff_exists.1 h
theorem ags_splitV {L : List Gt} {l : List Dw} (k : Nat) (h : agsB L l = true) : agsB (L.take k) l = true ∧ agsB (L.drop k) (agsV (L.take k) l) = true ∧ agsV (L.drop k) (agsV (L.take k) l) = agsV L l := by
  obtain ⟨o, ho⟩ := agsB_some h
  obtain ⟨u, h1, h2⟩ := ags_split k ho
  have e1 : agsV (L.take k) l = u := by unfold agsV; rw [h1]; rfl
  refine ⟨by unfold agsB; rw [h1]; rfl, by rw [e1]; unfold agsB; rw [h2]; rfl, ?_⟩
  rw [e1]
  unfold agsV
  rw [h2, ho]
end Go.Proofs.Ytadimihfbpkilaa
namespace Go.Proofs.Ytadimihfbpkilaa
open Go.RowKit
theorem zok : Dw.zero.ok := by decide
def Ok (l : List Dw) : Prop := ∀ x ∈ l, x.ok
theorem Ok.set {l : List Dw} (h : Ok l) (j : Nat) {x : Dw} (hx : x.ok) : Ok (l.set j x) := fun y hy => by
  rcases List.mem_or_eq_of_mem_set hy with hy | rfl
  · exact h y hy
  · exact hx
theorem Ok.eb {l : List Dw} (h : Ok l) : Eb l := fun x hx => by
  obtain ⟨_, h0, h1, _⟩ := h x hx
  omega
theorem sendO_ok {x : Dw} : ∀ {L : List (Nat × Dw)} {o o' : List Dw}, sendO x L o = some o' → Ok o → Ok o'
  | [], o, o', h, k => by injection h with h; rw [← h]; exact k
  | p :: L, o, o', h, k => by
    rw [sendO] at h
    split at h
    · rename_i hb
      rw [Bool.and_eq_true] at hb
      exact sendO_ok h (k.set _ (dAddV_ok hb.2))
    · cases h
theorem apO_ok {G : Nat → List (Nat × Dw)} : ∀ {l : List Dw} {i : Nat} {o o' : List Dw}, apO G i l o = some o' → Ok o → Ok o'
  | [], i, o, o', h, k => by injection h with h; rw [← h]; exact k
  | x :: l, i, o, o', h, k => by
    rw [apO] at h
    split at h
    · exact apO_ok h k
    · split at h
      · rename_i o2 ho
        exact apO_ok h (sendO_ok ho k)
      · cases h
theorem agV_ok (g : Gt) (l : List Dw) : Ok (agV g l) := by
  unfold agV
  cases ho : agO g l with
  | none => intro x hx; cases hx
  | some o =>
    unfold agO at ho
    split at ho
    · exact apO_ok ho fun x hx => by rw [(List.mem_replicate.1 hx).2]; exact zok
    · cases ho
theorem agsF_ok : ∀ {L : List Gt} {o o' : List Dw}, agsF L o = some o' → Ok o → Ok o'
  | [], o, o', h, k => by injection h with h; rw [← h]; exact k
  | g :: L, o, o', h, k => by
    rw [agsF] at h
    split at h
    · exact agsF_ok h (agV_ok g o)
    · cases h
theorem agsV_ok (L : List Gt) (l : List Dw) : Ok (agsV L l) := by
  unfold agsV
  cases ho : agsO L l with
  | none => intro x hx; cases hx
  | some o =>
    unfold agsO at ho
    split at ho
    · rename_i hs
      exact agsF_ok ho (stB_iff.1 hs).1
    · cases ho
/-- A circuit's matrix, and whether there is one. -/
def ccB (n : Int) (L : List Gt) : Bool := ciB n L && cirB L n.toNat
def ccM (n : Int) (L : List Gt) : List (List Dw) := if ciB n L then cirM L n.toNat else []
theorem cirM_row {L : List Gt} {n : Nat} : ∀ r ∈ cirM L n, Ok r ∧ r.length = 2 ^ n := by
  unfold cirM
  split
  · intro r hr
    obtain ⟨i, hi, rfl⟩ := List.mem_map.1 hr
    refine ⟨fun x hx => ?_, by rw [col_len, cirC_len]⟩
    obtain ⟨c, hc, rfl⟩ := List.mem_map.1 hx
    obtain ⟨j, hj, rfl⟩ := List.mem_map.1 hc
    rw [List.getD_eq_getElem?_getD]
    cases hk : (agsV L (basisL n j))[i]? with
    | none => exact zok
    | some y => exact agsV_ok _ _ y (List.mem_of_getElem? hk)
  · intro r hr; cases hr
theorem cirM_len {L : List Gt} {n : Nat} : (cirM L n).length ≤ 2 ^ n := by
  unfold cirM
  split
  · rw [colsM_len, cirC_len]; exact Nat.le_refl _
  · exact Nat.zero_le _
theorem ccM_row {n : Int} {L : List Gt} : (ccM n L).length ≤ 16 ∧ ∀ r ∈ ccM n L, Ok r ∧ 1 ≤ r.length ∧ r.length ≤ 16 := by
  unfold ccM
  split
  · rename_i h
    have h4 : 1 ≤ n ∧ n ≤ 4 := by
      unfold ciB at h
      simp only [Bool.and_eq_true, decide_eq_true_eq] at h
      exact h.2.1
    have hp : 2 ^ n.toNat ≤ 16 := by
      rcases (show n.toNat = 1 ∨ n.toNat = 2 ∨ n.toNat = 3 ∨ n.toNat = 4 by omega) with e | e | e | e <;> rw [e] <;> decide
    exact ⟨Nat.le_trans cirM_len hp, fun r hr => ⟨(cirM_row r hr).1, by rw [(cirM_row r hr).2]; exact Nat.one_le_two_pow, by rw [(cirM_row r hr).2]; exact hp⟩⟩
  · exact ⟨Nat.zero_le _, fun r hr => by cases hr⟩
attribute [local irreducible] World.cell?
end Go.Proofs.Ytadimihfbpkilaa
namespace Go.Proofs.Ytadimihfbpkilaa
/-- The bits of some qubits. -/
def gm (l : List Nat) : Nat := l.foldr (fun q m => 1 <<< q ||| m) 0
def gqN (k : Int) (A B C : Nat) : List Nat := [A, B, C].take (ar k)
/-- A gate looks at and turns over its own qubits' bits alone; its factors are phases, over the root at most; it reaches each place once, GateH twice. -/
def ownB (k : Int) (A B C : Nat) : Bool :=
  ((List.range 16).all fun m => m &&& gm (gqN k A B C) != 0 || (List.range 16).all fun i => decide (goesL k A B C (i ^^^ m) = (goesL k A B C i).map fun p => (p.1 ^^^ m, p.2))) &&
  (((List.range 16).all fun i => (goesL k A B C i).all fun p => decide ((p.1 ^^^ i) &&& gm (gqN k A B C) = p.1 ^^^ i) && (decide (p.1 < 16) && decide (p.2.n ∈ phL))) &&
  (List.range 16).all fun j => decide (((List.range 16).flatMap (goesL k A B C)).countP (fun p => p.1 == j) ≤ if k = 4 then 2 else 1))
theorem own_1 : ([1, 2, 3, 4, 5, 6, 7, 8] : List Int).all (fun k => (List.range 4).all fun A => ownB k A 0 0) = true := by decide +kernel
theorem own_2 : ([9, 10, 11] : List Int).all (fun k => (List.range 4).all fun A => (List.range 4).all fun B => A == B || ownB k A B 0) = true := by decide +kernel
theorem own_3 : ((List.range 4).all fun A => (List.range 4).all fun B => (List.range 4).all fun C => A == B || C == A || C == B || ownB 12 A B C) = true := by decide +kernel
end Go.Proofs.Ytadimihfbpkilaa
