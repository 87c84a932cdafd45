/- BaseB17: several of our texts in one: AgM ApKp ApG. -/
import Derived.Test.YtkcpemkahkkcmaaGreatAgV
import Derived.Test.YtkcpemkahkkcmaaGreatBaseB16
import Derived.Test.YtkcpemkahkkcmaaGreatBaseB15
import Derived.Test.YtkcpemkahkkcmaaGreatBaseB23
import Derived.Test.YtkcpemkahkkcmaaGreatBaseB08
namespace Go.Proofs.YtkcpemkahkkcmaaGreat
/-- What a valid gate's qubits are. -/
theorem gtB_kinds {g : Gt} {n : Int} (h : gtB g n = true) : (1 ≤ g.k ∧ g.k ≤ 8 ∧ g.b = 0 ∧ g.c = 0) ∨ (9 ≤ g.k ∧ g.k ≤ 11 ∧ g.b ≠ g.a ∧ g.c = 0) ∨ (g.k = 12 ∧ g.b ≠ g.a ∧ g.c ≠ g.a ∧ g.c ≠ g.b) := by
  have hp := (gtB_parts h).2.1
  unfold gtB at h
  simp only [Bool.and_eq_true, decide_eq_true_eq] at h
  obtain ⟨hall, -, -⟩ := h
  rw [List.all_eq_true] at hall
  have h1 := hall 1 (List.mem_range.2 (by decide))
  have h2 := hall 2 (List.mem_range.2 (by decide))
  unfold gtOk gqs at h1 h2
  rcases (show (1 ≤ g.k ∧ g.k ≤ 8) ∨ (9 ≤ g.k ∧ g.k ≤ 11) ∨ g.k = 12 by omega) with k | k | k
  · have ha : ar g.k = 1 := if_pos k
    rw [ha, if_pos (by decide)] at h1 h2
    exact .inl ⟨k.1, k.2, of_decide_eq_true h1, of_decide_eq_true h2⟩
  · have ha : ar g.k = 2 := by rw [ar, if_neg (by omega), if_pos k]
    rw [ha, if_neg (by decide)] at h1
    rw [ha, if_pos (by decide)] at h2
    rw [Bool.and_eq_true] at h1
    exact .inr (.inl ⟨k.1, k.2, by simpa using h1.2, of_decide_eq_true h2⟩)
  · have ha : ar g.k = 3 := by rw [k]; rfl
    rw [ha, if_neg (by decide)] at h1 h2
    rw [Bool.and_eq_true] at h1 h2
    have h3 : ¬ (g.c = g.a ∨ g.c = g.b) := by simpa using h2.2
    exact .inr (.inr ⟨k, by simpa using h1.2, fun e => h3 (.inl e), fun e => h3 (.inr e)⟩)
theorem goes_back {g : Gt} {n : Int} (h : gtB g n = true) {i j : Nat} (hi : i < 16) (hj : j < 16) : cfs (goesG g i) (fun m => cf (goesG (invG g) m) j) = if i = j then twoZ else .zero := by
  obtain ⟨hn, -, ha, hb, hc⟩ := gtB_parts h
  have hk := gtB_kinds h
  have key : backB g.k g.a.toNat g.b.toNat g.c.toNat = true := by
    rcases hk with ⟨k1, k2, b0, c0⟩ | ⟨k1, k2, hab, c0⟩ | ⟨k, hab, hca, hcb⟩
    · have h1 := List.all_eq_true.1 back_1 g.k (by simp; omega)
      have h2 := List.all_eq_true.1 h1 g.a.toNat (List.mem_range.2 (by omega))
      rw [b0, c0]; exact h2
    · have h1 := List.all_eq_true.1 back_2 g.k (by simp; omega)
      have h2 := List.all_eq_true.1 (List.all_eq_true.1 h1 g.a.toNat (List.mem_range.2 (by omega))) g.b.toNat (List.mem_range.2 (by omega))
      rw [Bool.or_eq_true, beq_iff_eq] at h2
      rw [c0]; exact h2.resolve_left (by omega)
    · have h2 := List.all_eq_true.1 (List.all_eq_true.1 (List.all_eq_true.1 back_3 g.a.toNat (List.mem_range.2 (by omega))) g.b.toNat (List.mem_range.2 (by omega))) g.c.toNat (List.mem_range.2 (by omega))
      rw [Bool.or_eq_true, Bool.or_eq_true, Bool.or_eq_true, beq_iff_eq, beq_iff_eq, beq_iff_eq] at h2
      rw [k]
      exact h2.resolve_left (by omega)
  exact of_decide_eq_true (List.all_eq_true.1 (List.all_eq_true.1 key i (List.mem_range.2 hi)) j (List.mem_range.2 hj))
/-- One place and a phase, or the two places of a GateH. -/
theorem goesL_form (k : Int) (A B C i : Nat) : (∃ (a : Nat) (m : Int), goesL k A B C i = [(a, dPh m)]) ∨ goesL k A B C i = [(lowN i A, isV 1), (flipN (lowN i A) A, if bitN i A then dNegV (isV 1) else isV 1)] := by
  have hp : ∀ (a : Nat) (t : Bool) (m : Int), ∃ (b : Nat) (n : Int), [(a, if t = true then dPh m else dPh 0)] = [(b, dPh n)] := fun a t m => by
    cases t
    · exact ⟨a, 0, rfl⟩
    · exact ⟨a, m, rfl⟩
  unfold goesL
  by_cases h1 : k = 1
  · rw [if_pos h1]; exact .inl (⟨_, 0, rfl⟩)
  rw [if_neg h1]
  by_cases h2 : k = 2
  · rw [if_pos h2]; exact .inl (⟨_, _, rfl⟩)
  rw [if_neg h2]
  by_cases h3 : k = 3
  · rw [if_pos h3]; exact .inl (hp _ _ _)
  rw [if_neg h3]
  by_cases h5 : k = 5
  · rw [if_pos h5]; exact .inl (hp _ _ _)
  rw [if_neg h5]
  by_cases h6 : k = 6
  · rw [if_pos h6]; exact .inl (hp _ _ _)
  rw [if_neg h6]
  by_cases h7 : k = 7
  · rw [if_pos h7]; exact .inl (hp _ _ _)
  rw [if_neg h7]
  by_cases h8 : k = 8
  · rw [if_pos h8]; exact .inl (hp _ _ _)
  rw [if_neg h8]
  by_cases h9 : k = 9
  · rw [if_pos h9]; exact .inl (⟨_, 0, rfl⟩)
  rw [if_neg h9]
  by_cases h10 : k = 10
  · rw [if_pos h10]; exact .inl (hp _ _ _)
  rw [if_neg h10]
  by_cases h12 : k = 12
  · rw [if_pos h12]; exact .inl (⟨_, 0, rfl⟩)
  rw [if_neg h12]
  by_cases h11 : k = 11
  · rw [if_pos h11]; exact .inl (⟨_, 0, rfl⟩)
  rw [if_neg h11]
  exact .inr rfl
theorem goesL_e (k : Int) (A B C i : Nat) : ∀ p ∈ goesL k A B C i, p.2.ok ∧ p.2.e.toNat ≤ 1 := by
  have hI : (isV 1).ok ∧ (isV 1).e.toNat ≤ 1 := by decide
  have hN : (dNegV (isV 1)).ok ∧ (dNegV (isV 1)).e.toNat ≤ 1 := by decide
  intro p hp
  rcases goesL_form k A B C i with ⟨a, m, e⟩ | e
  · rw [e, List.mem_singleton] at hp
    subst hp
    exact ⟨dPh_ok m, (by decide : (0 : Int).toNat ≤ 1)⟩
  · rw [e] at hp
    rcases List.mem_cons.1 hp with rfl | hp
    · exact hI
    · rw [List.mem_singleton] at hp
      subst hp
      cases bitN i A
      · exact hI
      · exact hN
theorem goesG_e {g : Gt} {N : Nat} (hg : gtB g (qc N) = true) : ∀ i, i < N → ∀ p ∈ goesG g i, p.1 < N ∧ p.2.e.toNat ≤ 1 := fun _ hi p hp => ⟨goesG_in hg hi p hp, (goesL_e _ _ _ _ _ p hp).2⟩
theorem agO_some {g : Gt} {v w : List Dw} (h : agO g v = some w) : stB v = true ∧ gtB g (qc v.length) = true ∧ apO (goesG g) 0 v (List.replicate v.length .zero) = some w := by
  unfold agO at h
  split at h
  · rename_i hb
    rw [Bool.and_eq_true] at hb
    exact ⟨hb.1, hb.2, h⟩
  · cases h
theorem agO_val {g : Gt} {v w : List Dw} (h : agO g v = some w) : w.length = v.length ∧ (∀ y ∈ w, y.ok) ∧ stB w = true := by
  obtain ⟨h1, h2, h3⟩ := agO_some h
  obtain ⟨l, o, -⟩ := ap_zero (goesG_e h2) h3
  exact ⟨l, o, stB_iff.2 ⟨o, by rw [l]; exact (stB_iff.1 h1).2⟩⟩
/-- A gate and its inverse cancel. -/
theorem ag_back {g : Gt} {v w b : List Dw} (h : agO g v = some w) (k : agO (invG g) w = some b) : b = v := by
  obtain ⟨h1, h2, h3⟩ := agO_some h
  obtain ⟨k1, k2, k3⟩ := agO_some k
  obtain ⟨l, -, -⟩ := agO_val h
  have h16 := qc_len (stB_iff.1 h1).2
  rw [l] at k2
  exact ap_back (stB_iff.1 h1).1 (goesG_e h2) (goesG_e k2) (fun i hi j hj => goes_back h2 (by omega) (by omega)) h3 k3
/-- A gate at a basis state. -/
theorem send_one : ∀ {L : List (Nat × Dw)} {o : List Dw}, (∀ p ∈ L, p.2.ok ∧ o.getD p.1 .zero = .zero ∧ p.1 < o.length) → L.Pairwise (fun p q => p.1 ≠ q.1) → ∃ o', sendO oneD L o = some o'
  | [], o, _, _ => ⟨o, rfl⟩
  | p :: r, o, h, hd => by
    obtain ⟨h1, h2, h3⟩ := h p (List.mem_cons_self ..)
    have hm := dmul_one h1
    rw [← dMulB_comm, ← dMulV_comm] at hm
    have ha := dadd_zero h1
    rw [List.pairwise_cons] at hd
    rw [sendO, h2, hm.1, hm.2, ha.1, ha.2, Bool.and_self, if_pos rfl]
    refine send_one (fun q hq => ?_) hd.2
    obtain ⟨q1, q2, q3⟩ := h q (List.mem_cons_of_mem _ hq)
    refine ⟨q1, ?_, by rw [List.length_set]; exact q3⟩
    rw [getD_set _ _ _ _ h3, if_neg (hd.1 q hq), q2]
theorem ap_skip (G : Nat → List (Nat × Dw)) (o : List Dw) : ∀ m i, apO G i (List.replicate m .zero) o = some o
  | 0, _ => rfl
  | m + 1, i => by rw [List.replicate_succ, apO, if_pos rfl]; exact ap_skip G o m (i + 1)
theorem ap_basis {G : Nat → List (Nat × Dw)} {o o' : List Dw} : ∀ (m j i : Nat), j < m → sendO oneD (G (i + j)) o = some o' → apO G i ((List.replicate m .zero).set j oneD) o = some o'
  | 0, _, _, h, _ => absurd h (Nat.not_lt_zero _)
  | m + 1, 0, i, _, h => by
    rw [List.replicate_succ, List.set_cons_zero, apO, if_neg (by decide), show G i = G (i + 0) from rfl, h]
    exact ap_skip G o' m (i + 1)
  | m + 1, j + 1, i, hj, h => by
    rw [List.replicate_succ, List.set_cons_succ, apO, if_pos rfl]
    exact ap_basis m j (i + 1) (by omega) (by rw [show i + 1 + j = i + (j + 1) by omega]; exact h)
theorem low_flip : ∀ i : Fin 16, ∀ q : Fin 4, lowN i.val q.val ≠ flipN (lowN i.val q.val) q.val := by decide +kernel
theorem goesL_apart {k : Int} {A B C i : Nat} (hi : i < 16) (hA : A < 4) : (goesL k A B C i).Pairwise (fun p q => p.1 ≠ q.1) := by
  rcases goesL_form k A B C i with ⟨a, m, e⟩ | e
  · rw [e]; exact List.pairwise_singleton _ _
  · rw [e, List.pairwise_cons]
    refine ⟨fun q hq => ?_, List.pairwise_singleton _ _⟩
    rw [List.mem_singleton] at hq
    subst hq
    exact low_flip ⟨i, hi⟩ ⟨A, hA⟩
theorem ag_basis {g : Gt} {N i : Nat} (hg : gtB g (qc N) = true) (hN : 0 < qc N) (hi : i < N) : ∃ o, agO g (basisL (qc N) (i : Int)) = some o := by
  obtain ⟨h1, h2⟩ := basis_st hN hi
  have h16 := qc_len hN
  obtain ⟨hn, -, ha, -, -⟩ := gtB_parts hg
  obtain ⟨o, ho⟩ := send_one (L := goesG g i) (o := List.replicate N .zero) (fun p hp => ⟨(goesL_e _ _ _ _ _ p hp).1, rep_getD _ _, by rw [List.length_replicate]; exact goesG_in hg hi p hp⟩) (goesL_apart (by omega) (by omega))
  refine ⟨o, ?_⟩
  unfold agO
  rw [h1, h2, hg, Bool.and_self, if_pos rfl, basis_eq hN hi]
  exact ap_basis N i 0 hi (by rw [Nat.zero_add]; exact ho)
/-- GateMatrix: the columns, and the matrix. -/
def gmL (g : Gt) (n : Int) : List (List Dw) := (List.range (2 ^ n.toNat)).map fun (i : Nat) => agV g (basisL n (i : Int))
def gmM (g : Gt) (n : Int) : List (List Dw) := if gtB g n then colsM (gmL g n) else []
theorem gmL_len (g : Gt) (n : Int) : (gmL g n).length = 2 ^ n.toNat := by rw [gmL, List.length_map, List.length_range]
theorem agV_of {g : Gt} {v o : List Dw} (h : agO g v = some o) : agV g v = o := by unfold agV; rw [h]; rfl
theorem qc_of {n : Int} (h : 1 ≤ n ∧ n ≤ 4) : qc (2 ^ n.toNat) = n := by
  rcases (show n = 1 ∨ n = 2 ∨ n = 3 ∨ n = 4 by omega) with rfl | rfl | rfl | rfl <;> decide
theorem gmL_rows {g : Gt} {n : Int} (hg : gtB g n = true) : ∀ r ∈ gmL g n, r.length = 2 ^ n.toNat := by
  have hn := (gtB_parts hg).1
  have hq := qc_of hn
  intro r hr
  obtain ⟨i, hi, rfl⟩ := List.mem_map.1 hr
  have hi := List.mem_range.1 hi
  obtain ⟨o, ho⟩ := ag_basis (g := g) (N := 2 ^ n.toNat) (by rw [hq]; exact hg) (by rw [hq]; omega) hi
  rw [hq] at ho
  rw [agV_of ho, (agO_val ho).1]
  have hb := (basis_st (n := 2 ^ n.toNat) (by rw [hq]; omega) hi).2
  rwa [hq] at hb
theorem vl_one : vl oneD = rootN 60 ⟨1, 0, 0, 0⟩ := rfl
theorem one_mul' (x : Zw) : Zw.mul ⟨1, 0, 0, 0⟩ x = x := by
  apply Zw.ext4 <;> simp [Zw.mul]
/-- A gate's matrix applied is the gate applied. -/
theorem gm_app {g : Gt} {v w : List Dw} (h : agO g v = some w) (hb : appB (gmM g (qc v.length)) v = true) : appL (gmM g (qc v.length)) v = w := by
  obtain ⟨h1, h2, h3⟩ := agO_some h
  obtain ⟨lw, -, -⟩ := agO_val h
  have hq := (stB_iff.1 h1).2
  have hp := (qc_pow hq).2.2
  have hM : gmM g (qc v.length) = colsM (gmL g (qc v.length)) := if_pos h2
  have hL : (gmL g (qc v.length)).length = v.length := by rw [gmL_len, ← hp]
  rw [appL, if_pos hb]
  rw [hM] at hb ⊢
  refine getD_eq ?_ fun k hk => ?_
  · rw [List.length_map, colsM_len, hL, lw]
  · rw [lw] at hk
    have hk2 : k < (gmL g (qc v.length)).length := by omega
    have hr : (colsM (gmL g (qc v.length)))[k]? = some (col (gmL g (qc v.length)) k) := by
      rw [colsM, List.getElem?_map, List.getElem?_range hk2]; rfl
    unfold appB at hb
    rw [Bool.and_eq_true, List.all_eq_true] at hb
    have hrow := hb.2 _ (List.mem_of_getElem? hr)
    rw [List.getD_eq_getElem?_getD, List.getElem?_map, hr]
    show rowV (col (gmL g (qc v.length)) k) v = _
    unfold rowB at hrow
    obtain ⟨t, ht⟩ := Option.isSome_iff_exists.1 hrow
    unfold rowV
    rw [ht]
    refine ap_row (goesG_e h2) h3 hk (by rw [col_len, hL]) (fun i hi => ?_) ht
    obtain ⟨o, ho⟩ := ag_basis h2 hq hi
    have hcol : (col (gmL g (qc v.length)) k).getD i .zero = o.getD k .zero := by
      rw [col, List.getD_eq_getElem?_getD, List.getElem?_map, gmL, List.getElem?_map, List.getElem?_range (by rw [← hp]; exact hi)]
      show (agV g (basisL (qc v.length) (i : Int))).getD k .zero = _
      rw [agV_of ho]
    obtain ⟨b1, b2, b3⟩ := agO_some ho
    obtain ⟨c1, c2⟩ := basis_st hq hi
    rw [c2] at b2
    obtain ⟨-, -, e⟩ := ap_zero (by rw [c2]; exact goesG_e b2) b3
    rw [hcol, e, c2, sumZ_one _ hi fun a _ ha => ?_]
    · rw [basis_eq hq hi, getD_set _ _ _ _ (by rw [List.length_replicate]; exact hi), if_pos rfl, vl_one, ← rootN_mul, one_mul']
    · rw [basis_eq hq hi, getD_set _ _ _ _ (by rw [List.length_replicate]; exact hi), if_neg (fun x => ha x.symm), rep_getD, vl_zero, zero_mul']
theorem agV_oks (g : Gt) (v : List Dw) : ∀ y ∈ agV g v, y.ok := by
  unfold agV
  cases h : agO g v with
  | none => intro y hy; cases hy
  | some o => exact (agO_val h).2.1
theorem agB_some {g : Gt} {l : List Dw} (h : agB g l = true) : ∃ o, agO g l = some o := Option.isSome_iff_exists.1 h
theorem agV_none {g : Gt} {l : List Dw} (h : agB g l = false) : agV g l = [] := by
  unfold agB at h
  unfold agV
  cases e : agO g l with
  | none => rfl
  | some o => rw [e] at h; cases h
theorem agB_valid {g : Gt} {l : List Dw} (h : agB g l = true) : gtB g (qc l.length) = true := by
  obtain ⟨o, ho⟩ := agB_some h
  exact (agO_some ho).2.1
theorem ag_backV {g : Gt} {l : List Dw} (k : agB g l = true) (h : agB (invG g) (agV g l) = true) : agV (invG g) (agV g l) = l := by
  obtain ⟨o, ho⟩ := agB_some k
  rw [agV_of ho] at h ⊢
  obtain ⟨b, hb⟩ := agB_some h
  rw [agV_of hb]
  exact ag_back ho hb
theorem gm_appV {g : Gt} {l : List Dw} (k : agB g l = true) (h : appB (gmM g (qc l.length)) l = true) : appL (gmM g (qc l.length)) l = agV g l := by
  obtain ⟨o, ho⟩ := agB_some k
  rw [agV_of ho]
  exact gm_app ho h
end Go.Proofs.YtkcpemkahkkcmaaGreat
namespace Go.Proofs.YtkcpemkahkkcmaaGreat
open Go.RowKit
theorem set_same {o : List Dw} {k : Nat} (hk : k < o.length) : o.set k (o.getD k .zero) = o := by
  rw [List.getD_eq_getElem?_getD, List.getElem?_eq_getElem hk]
  exact List.set_getElem_self hk
theorem send_zero : ∀ {L : List (Nat × Dw)} {o : List Dw}, (∀ p ∈ L, p.1 < o.length ∧ p.2.ok) → (∀ y ∈ o, y.ok) → sendO .zero L o = some o
  | [], _, _, _ => rfl
  | p :: r, o, h, ho => by
    have hp := h p (List.mem_cons_self ..)
    have hm := dzero_mul hp.2
    have ha := dadd_zeroK (getD_ok ho p.1)
    rw [sendO, hm.1, hm.2, ha.1, ha.2, set_same hp.1]
    exact send_zero (fun q hq => h q (List.mem_cons_of_mem _ hq)) ho
theorem ap_step2 {G : Nat → List (Nat × Dw)} {l o : List Dw} {i : Nat} {x : Dw} (hx : l[i]? = some x) (hG : ∀ p ∈ G i, p.1 < o.length ∧ p.2.ok) (ho : ∀ y ∈ o, y.ok) :
    apO G i (l.drop i) o = match sendO x (G i) o with
      | some o' => apO G (i + 1) (l.drop (i + 1)) o'
      | none => none := by
  rw [ap_step hx]
  split
  · rename_i h
    rw [h, send_zero hG ho]
  · rfl
theorem goesG_ok (g : Gt) (i : Nat) : ∀ p ∈ goesG g i, p.2.ok := fun p hp => (goesL_e _ _ _ _ _ p hp).1
end Go.Proofs.YtkcpemkahkkcmaaGreat
namespace Go.Proofs.YtkcpemkahkkcmaaGreat
open Go.RowKit
theorem pow_le16 {n : Int} (h : 1 ≤ n ∧ n ≤ 4) : 2 ^ n.toNat ≤ 16 := by
  rcases (show n = 1 ∨ n = 2 ∨ n = 3 ∨ n = 4 by omega) with rfl | rfl | rfl | rfl <;> decide
theorem gmM_amps (g : Gt) (n : Int) : (gmM g n).length ≤ 1048576 ∧ amps (gmM g n) ≤ 1048576 := by
  unfold gmM
  split
  · rename_i h
    have h16 := pow_le16 (gtB_parts h).1
    have hL := gmL_len g n
    have hc : (colsM (gmL g n)).length = 2 ^ n.toNat := by rw [colsM_len, hL]
    have hr := amps_rect (n := 2 ^ n.toNat) (M := colsM (gmL g n)) fun r hr => by
      obtain ⟨k, -, rfl⟩ := List.mem_map.1 hr
      rw [col_len, hL]
    refine ⟨by omega, ?_⟩
    rw [hr, hc]
    exact Nat.le_trans (Nat.mul_le_mul h16 h16) (by decide)
  · exact ⟨by decide, by decide⟩
theorem gmM_eb (g : Gt) (n : Int) : EbM (gmM g n) := by
  unfold gmM
  split
  · intro r hr x hx
    obtain ⟨k, -, rfl⟩ := List.mem_map.1 hr
    obtain ⟨q, hq, rfl⟩ := List.mem_map.1 hx
    obtain ⟨i, -, rfl⟩ := List.mem_map.1 hq
    exact ok_eb (getD_ok (agV_oks g _) k)
  · intro r hr; cases hr
attribute [local irreducible] World.cell?
end Go.Proofs.YtkcpemkahkkcmaaGreat
