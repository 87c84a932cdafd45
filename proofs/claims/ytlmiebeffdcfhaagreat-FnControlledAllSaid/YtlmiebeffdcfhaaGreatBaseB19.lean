/- BaseB19: several of our texts in one: AgN ApM AgM LyN CmA. -/
import Derived.Test.YtlmiebeffdcfhaaGreatBaseC04
import Derived.Test.YtlmiebeffdcfhaaGreatBaseB15
import Derived.Test.YtlmiebeffdcfhaaGreatBaseC06
namespace Go.Proofs.YtlmiebeffdcfhaaGreat
end Go.Proofs.YtlmiebeffdcfhaaGreat
namespace Go.Proofs.YtlmiebeffdcfhaaGreat
open Go.RowKit
theorem agV_len2 {g : Gt} {l : List Dw} (h : agB g l = true) : (agV g l).length = l.length := by
  unfold agB at h
  unfold agV
  cases ho : agO g l with
  | none => rw [ho] at h; cases h
  | some o =>
    unfold agO at ho
    split at ho
    · have := apO_len ho
      rw [List.length_replicate] at this
      simpa using this
    · cases ho
theorem agsF_len : ∀ {L : List Gt} {o o' : List Dw}, agsF L o = some o' → o'.length = o.length
  | [], o, o', h => by injection h with h; rw [h]
  | g :: L, o, o', h => by
    rw [agsF] at h
    split at h
    · rename_i hb
      rw [agsF_len h, agV_len2 hb]
    · cases h
theorem agsV_len {L : List Gt} {l : List Dw} (h : agsB L l = true) : (agsV L l).length = l.length := by
  unfold agsB at h
  unfold agsV
  cases ho : agsO L l with
  | none => rw [ho] at h; cases h
  | some o =>
    unfold agsO at ho
    split at ho
    · simpa using agsF_len ho
    · cases ho
/-- The columns of a circuit's map on n qubits, and whether each is found. -/
def cirC (L : List Gt) (n : Nat) : List (List Dw) := (List.range (2 ^ n)).map fun (i : Nat) => agsV L (basisL n i)
def cirB (L : List Gt) (n : Nat) : Bool := (List.range (2 ^ n)).all fun (i : Nat) => agsB L (basisL n i)
def cirM (L : List Gt) (n : Nat) : List (List Dw) := if cirB L n then colsM (cirC L n) else []
theorem cirC_len (L : List Gt) (n : Nat) : (cirC L n).length = 2 ^ n := by rw [cirC, List.length_map, List.length_range]
theorem cirC_step {L : List Gt} {n j : Nat} (hj : j < 2 ^ n) : (cirC L n).take (j + 1) = (cirC L n).take j ++ [agsV L (basisL n j)] := by
  have hc : (cirC L n)[j]? = some (agsV L (basisL n j)) := by unfold cirC; rw [List.getElem?_map, List.getElem?_range hj]; rfl
  rw [List.take_add_one, hc]
  rfl
theorem basis_len {n j : Nat} (h1 : 1 ≤ n) (h4 : n ≤ 4) (hj : j < 2 ^ n) : (basisL n j).length = 2 ^ n := by
  have hj2 : (j : Int) ≤ 2 ^ (n : Int).toNat - 1 := by
    rw [Int.toNat_natCast]
    rcases (show n = 1 ∨ n = 2 ∨ n = 3 ∨ n = 4 by omega) with rfl | rfl | rfl | rfl
    all_goals (simp at hj ⊢; omega)
  unfold basisL
  rw [if_pos ⟨by omega, by omega, by omega, hj2⟩]
  rw [List.length_set, List.length_replicate, Int.toNat_natCast]
attribute [local irreducible] World.cell?
set_option maxRecDepth 100000 in
set_option maxHeartbeats 1600000 in
theorem sapGs (B C : Nat) (vg v : Value) (L : List Gt) (l : List Dw) (w : World) (hg : gtE.Sl w C vg L) (hv : DSl w B v l) (hm : l.length ≤ 1048576) (hL : L.length ≤ 1048576) :
    Calls Tryz.prog 82 #[vg, v] w fun e w' => (∃ r, e = .returned (.tuple #[r, .bool (agsB L l)]) ∧ DSl w' w.heap.size r (agsV L l)) ∧ Below w.heap.size w w' := by
  cases hst : stB l with
  | true => exact sapGs_yes B C vg v L l w hg hv hst hL
  | false =>
    have h0 : agsO L l = none := by unfold agsO; rw [hst]; rfl
    rw [show agsB L l = false by unfold agsB; rw [h0]; rfl, show agsV L l = [] by unfold agsV; rw [h0]; rfl]
    have H1 := Lib.hid (svalidSt B v l w hv hm)
    rw [hst] at H1
    clear hst h0 hg hv
    go_enter Tryz.func82, Tryz.ntmps82
    go_wp2_with fail
    refine (H1.out).mono ?_
    rintro e w1 ⟨rfl, hb1⟩
    have Hb1 := Lib.hid hb1
    have hs1 := hb1.size
    clear hb1
    go_wp2_with fail
    go_returns
    exact ⟨⟨_, rfl, DSl.nil⟩, by have := Hb1.out; go_grown⟩
set_option maxRecDepth 100000 in
set_option maxHeartbeats 3200000 in
theorem smat (C n : Nat) (vg : Value) (L : List Gt) (w : World) (hg : gtE.Sl w C vg L) (h1 : 1 ≤ n) (h4 : n ≤ 4) (hL : L.length ≤ 1048576) :
    Calls Tryz.prog 50 #[vg, .int .i64 n] w fun e w' => (∃ r, e = .returned (.tuple #[r, .bool (cirB L n)]) ∧ DSM w' w.heap.size w'.heap.size r (cirM L n)) ∧ Below w.heap.size w w' := by
  obtain ⟨i0, hi, hz0, hz1, hz2⟩ := info_parts infoDs
  obtain ⟨N, hN⟩ : ∃ N, N = 2 ^ n := ⟨_, rfl⟩
  have hN16 : 2 ≤ N ∧ N ≤ 16 := by rw [hN]; rcases (show n = 1 ∨ n = 2 ∨ n = 3 ∨ n = 4 by omega) with rfl | rfl | rfl | rfl <;> decide
  have hw : wrap64 (2 ^ n) = (N : Int) := by rw [hN]; rcases (show n = 1 ∨ n = 2 ∨ n = 3 ∨ n = 4 by omega) with rfl | rfl | rfl | rfl <;> decide +kernel
  have Hbs := Lib.hid (fun (j : Nat) W => sbasis n j W)
  have Hbl := Lib.hid (fun (j : Nat) (h : j < N) => (basis_len (n := n) (j := j) h1 h4 (by rw [← hN]; exact h)).trans hN.symm)
  have Hap := Lib.hid (fun (j : Nat) (hj : j < N) D (u : Value) W (h : DSl W D u (basisL n j)) (h' : gtE.Sl W C vg L) => sapGs D C vg u L (basisL n j) W h' h (by rw [Hbl.out j hj]; omega) hL)
  have Hlen := Lib.hid (fun (j : Nat) (hj : j < N) (h : agsB L (basisL n j) = true) => (agsV_len h).trans (Hbl.out j hj))
  have Hst := Lib.hid (fun (j : Nat) (hj : j < N) => cirC_step (L := L) (n := n) (j := j) (by rw [← hN]; exact hj))
  have hcl := (cirC_len L n).trans hN.symm
  obtain ⟨SB, hSB⟩ : ∃ SB, SB = cirB L n := ⟨_, rfl⟩
  obtain ⟨SL, hSL⟩ : ∃ SL, SL = cirM L n := ⟨_, rfl⟩
  rw [← hSB, ← hSL]
  have HSB := Lib.hid (hSB.trans (show cirB L n = (List.range N).all fun (i : Nat) => agsB L (basisL n i) by rw [hN]; rfl))
  have HSL := Lib.hid (show SL = if SB then colsM (cirC L n) else [] by rw [hSB]; exact hSL)
  have Hmem := Lib.hid (show ∀ r ∈ cirC L n, ∃ j, j < N ∧ r = agsV L (basisL n j) from fun r hr => by
    obtain ⟨k, hk, rfl⟩ := List.mem_map.1 hr
    exact ⟨k, by rw [hN]; exact List.mem_range.1 hk, rfl⟩)
  have Hvg := Lib.hid hg
  generalize cirC L n = M at *
  clear hSB hSL hN
  go_enter Tryz.func50, Tryz.ntmps50
  go_wp2_with fail
  go_loopg [6, 7] N (fun m out i wr => ∃ (j : Nat) (vs : List Value), m = N - j ∧ j ≤ N ∧ i = .int .i64 j ∧ Hid (wr.ownsRow w.heap.size 59 1 out j vs) ∧ Hid (RwS wr w.heap.size wr.heap.size vs (M.take j)) ∧ Hid (∀ k, k < j → agsB L (basisL n k) = true) ∧ Hid (Below w.heap.size w wr))
  case atStart => exact ⟨0, [], rfl, Nat.zero_le _, rfl, ownM_new rfl, RwS.nil, Lib.hid (fun k hk => absurd hk (Nat.not_lt_zero _)), Lib.hid (by go_grown)⟩
  case round =>
    obtain ⟨j, vs, rfl, hj, rfl, Hown, Hrows, Hall, Hb⟩ := hrel
    have hs := Hb.out.size
    by_cases hlt : j < N
    · have hjl : (j : Int) < N := by omega
      have Hc := Lib.hid (Hbs.out j wr)
      have Ha := Lib.hid (fun D u W => Hap.out j hlt D u W)
      have Hstp := Lib.hid (Hst.out j hlt)
      have Hln := Lib.hid (Hlen.out j hlt)
      have Hat := Lib.hid (fun (h : agsB L (basisL n j) = true) k (hk : k < j + 1) => by
        rcases Nat.lt_succ_iff_lt_or_eq.1 hk with h' | rfl
        · exact Hall.out k h'
        · exact h)
      have Hno := Lib.hid (fun (h : agsB L (basisL n j) = false) => (show ((List.range N).all fun (i : Nat) => agsB L (basisL n i)) = false from by
        rw [List.all_eq_false]; exact ⟨j, List.mem_range.2 hlt, by rw [h]; decide⟩))
      generalize agsB L (basisL n j) = t at *
      generalize agsV L (basisL n j) = r at *
      go_wp2_with fail
      refine (Hc.out).mono ?_
      rintro e w3 ⟨c, rfl, hdc, hb3⟩
      have Hg3 := Lib.hid (Hvg.out.block fun k _ hk => (hb3.block k (by omega)).trans (Hb.out.block k hk))
      have Hc3 := Lib.hid (Ha.out _ c w3 hdc Hg3.out)
      have Hb3 := Lib.hid (Hb.out.trans (hb3.mono hs))
      have Hown3 := Lib.hid (row_below Hown.out hb3)
      have Hrows3 := Lib.hid ((Hrows.out.block fun k _ _ hk => hb3.block k hk).mono (Nat.le_refl _) hb3.size)
      have hs3 := Hb3.out.size
      clear hb3 hdc Hown Hrows Hb Hc Hg3
      go_wp2_with fail
      refine (Hc3.out).mono ?_
      rintro e w4 ⟨⟨q, rfl, hdq⟩, hb4⟩
      have Hown4 := Lib.hid (row_below Hown3.out hb4)
      have Hrows4 := Lib.hid (Hrows3.out.upto.snoc hdq.upto hs3 hb4.size fun k _ _ hk => hb4.block k hk)
      have Hb4 := Lib.hid (Hb3.out.trans (hb4.mono hs3))
      have hs4 := Hb4.out.size
      obtain ⟨p, pc, rfl, -, -⟩ := hdq
      clear hb4 Hown3 Hrows3 Hb3 Hc3
      cases t with
      | false =>
        obtain rfl : SB = false := HSB.out.trans (Hno.out rfl)
        obtain rfl : SL = [] := HSL.out
        go_wp2_with fail
        go_returns
        exact ⟨⟨_, rfl, DSM.nil⟩, by have := Hb4.out; go_grown⟩
      | true =>
        rw [← Hstp.out] at Hrows4
        go_wp2_with (first
          | (at_builtin; refine wpList_append_own _ rfl _ _ 32 rfl w.heap.size 59 i0 (.slice none 0 0) 1 24 Tryz.underlying32 hi hz0 hz1 hz2 rfl (by decide) _ _ _ rfl (Hown4.out.alloc _) ⟨w4.heap.size, 0, none⟩ 1 1 [.slice p r.length pc] rfl rfl (slice_new _ _ _) (by intro u hu; simp at hu; subst hu; rfl) ?d3 ?d4 ?d5 ?_))
        case d3 => unfold maxLen; omega
        case d4 => omega
        case d5 => first | omega | (simp; omega)
        intro v' w5 hown' hgrow _
        have HB5 := Lib.hid ((Hb4.out.alloc hs4 (.cells #[.slice p r.length pc] 59)).grown hgrow (by simp; omega) (fun q hq => by have := Hown4.out.lt q hq; omega))
        have Hrows5 := Lib.hid (((Hrows4.out.block fun k _ _ hk => Below.heap_alloc _ _ _ hk).grown (Hown4.out.alloc _) hgrow).upto)
        have Hown5 := Lib.hid hown'
        clear hown' hgrow
        go_wp2_with fail
        go_roundg (N - (j + 1))
        case measure => omega
        case rel => exact ⟨j + 1, _, rfl, by omega, by go_num, Hown5.out, Hrows5, Lib.hid (Hat.out trivial), HB5⟩
    · obtain rfl : j = N := by omega
      have hall : ((List.range j).all fun (i : Nat) => agsB L (basisL n i)) = true := by
        rw [List.all_eq_true]; exact fun k hk => Hall.out k (List.mem_range.1 hk)
      obtain rfl : SB = true := HSB.out.trans hall
      obtain rfl : SL = colsM M := HSL.out
      have hown := Hown.out
      have hrows := Hrows.out
      rw [List.take_of_length_le (by omega)] at hrows
      rw [← hcl] at hown
      have hd := DSM.of_own hown hrows (Nat.le_refl _)
      have Hcs := Lib.hid (scolumns _ _ _ _ wr hd (fun r hr => by
        obtain ⟨k, hk, rfl⟩ := Hmem.out r hr
        rw [hcl, Hlen.out k hk (Hall.out k hk)]
        exact Nat.le_refl _) (by omega))
      clear hown hrows hd
      go_wp2_with fail
      refine (Hcs.out).mono ?_
      rintro e w6 ⟨q, rfl, hdq, hb6⟩
      have Hdq := Lib.hid (hdq.mono (D := w.heap.size) (E := w6.heap.size) hs (Nat.le_refl _))
      have Hb6 := Lib.hid (Hb.out.trans (hb6.mono hs))
      clear hb6 hdq
      go_wp2_with fail
      go_returns
      exact ⟨⟨_, rfl, Hdq.out⟩, Hb6.out⟩
end Go.Proofs.YtlmiebeffdcfhaaGreat
namespace Go.Proofs.YtlmiebeffdcfhaaGreat
/-- What a valid gate's qubits are. -/
theorem gtB_kinds {g : Gt} {n : Int} (h : gtB g n = true) : (1 ≤ g.k ∧ g.k ≤ 8 ∧ g.b = 0 ∧ g.c = 0) ∨ (9 ≤ g.k ∧ g.k ≤ 11 ∧ g.b ≠ g.a ∧ g.c = 0) ∨ (g.k = 12 ∧ g.b ≠ g.a ∧ g.c ≠ g.a ∧ g.c ≠ g.b) := by
  have hp := (gtB_parts h).2.1
  unfold gtB at h
  simp only [Bool.and_eq_true, decide_eq_true_eq] at h
  obtain ⟨hall, -, -⟩ := h
  rw [List.all_eq_true] at hall
  have h1 := hall 1 (List.mem_range.2 (by decide))
  have h2 := hall 2 (List.mem_range.2 (by decide))
  unfold gtOk gqs at h1 h2
  rcases (show (1 ≤ g.k ∧ g.k ≤ 8) ∨ (9 ≤ g.k ∧ g.k ≤ 11) ∨ g.k = 12 by omega) with k | k | k
  · have ha : ar g.k = 1 := if_pos k
    rw [ha, if_pos (by decide)] at h1 h2
    exact .inl ⟨k.1, k.2, of_decide_eq_true h1, of_decide_eq_true h2⟩
  · have ha : ar g.k = 2 := by rw [ar, if_neg (by omega), if_pos k]
    rw [ha, if_neg (by decide)] at h1
    rw [ha, if_pos (by decide)] at h2
    rw [Bool.and_eq_true] at h1
    exact .inr (.inl ⟨k.1, k.2, by simpa using h1.2, of_decide_eq_true h2⟩)
  · have ha : ar g.k = 3 := by rw [k]; rfl
    rw [ha, if_neg (by decide)] at h1 h2
    rw [Bool.and_eq_true] at h1 h2
    have h3 : ¬ (g.c = g.a ∨ g.c = g.b) := by simpa using h2.2
    exact .inr (.inr ⟨k, by simpa using h1.2, fun e => h3 (.inl e), fun e => h3 (.inr e)⟩)
/-- One place and a phase, or the two places of a GateH. -/
theorem goesL_form (k : Int) (A B C i : Nat) : (∃ (a : Nat) (m : Int), goesL k A B C i = [(a, dPh m)]) ∨ goesL k A B C i = [(lowN i A, isV 1), (flipN (lowN i A) A, if bitN i A then dNegV (isV 1) else isV 1)] := by
  have hp : ∀ (a : Nat) (t : Bool) (m : Int), ∃ (b : Nat) (n : Int), [(a, if t = true then dPh m else dPh 0)] = [(b, dPh n)] := fun a t m => by
    cases t
    · exact ⟨a, 0, rfl⟩
    · exact ⟨a, m, rfl⟩
  unfold goesL
  by_cases h1 : k = 1
  · rw [if_pos h1]; exact .inl (⟨_, 0, rfl⟩)
  rw [if_neg h1]
  by_cases h2 : k = 2
  · rw [if_pos h2]; exact .inl (⟨_, _, rfl⟩)
  rw [if_neg h2]
  by_cases h3 : k = 3
  · rw [if_pos h3]; exact .inl (hp _ _ _)
  rw [if_neg h3]
  by_cases h5 : k = 5
  · rw [if_pos h5]; exact .inl (hp _ _ _)
  rw [if_neg h5]
  by_cases h6 : k = 6
  · rw [if_pos h6]; exact .inl (hp _ _ _)
  rw [if_neg h6]
  by_cases h7 : k = 7
  · rw [if_pos h7]; exact .inl (hp _ _ _)
  rw [if_neg h7]
  by_cases h8 : k = 8
  · rw [if_pos h8]; exact .inl (hp _ _ _)
  rw [if_neg h8]
  by_cases h9 : k = 9
  · rw [if_pos h9]; exact .inl (⟨_, 0, rfl⟩)
  rw [if_neg h9]
  by_cases h10 : k = 10
  · rw [if_pos h10]; exact .inl (hp _ _ _)
  rw [if_neg h10]
  by_cases h12 : k = 12
  · rw [if_pos h12]; exact .inl (⟨_, 0, rfl⟩)
  rw [if_neg h12]
  by_cases h11 : k = 11
  · rw [if_pos h11]; exact .inl (⟨_, 0, rfl⟩)
  rw [if_neg h11]
  exact .inr rfl
theorem goesL_e (k : Int) (A B C i : Nat) : ∀ p ∈ goesL k A B C i, p.2.ok ∧ p.2.e.toNat ≤ 1 := by
  have hI : (isV 1).ok ∧ (isV 1).e.toNat ≤ 1 := by decide
  have hN : (dNegV (isV 1)).ok ∧ (dNegV (isV 1)).e.toNat ≤ 1 := by decide
  intro p hp
  rcases goesL_form k A B C i with ⟨a, m, e⟩ | e
  · rw [e, List.mem_singleton] at hp
    subst hp
    exact ⟨dPh_ok m, (by decide : (0 : Int).toNat ≤ 1)⟩
  · rw [e] at hp
    rcases List.mem_cons.1 hp with rfl | hp
    · exact hI
    · rw [List.mem_singleton] at hp
      subst hp
      cases bitN i A
      · exact hI
      · exact hN
theorem goesG_e {g : Gt} {N : Nat} (hg : gtB g (qc N) = true) : ∀ i, i < N → ∀ p ∈ goesG g i, p.1 < N ∧ p.2.e.toNat ≤ 1 := fun _ hi p hp => ⟨goesG_in hg hi p hp, (goesL_e _ _ _ _ _ p hp).2⟩
theorem agO_some {g : Gt} {v w : List Dw} (h : agO g v = some w) : stB v = true ∧ gtB g (qc v.length) = true ∧ apO (goesG g) 0 v (List.replicate v.length .zero) = some w := by
  unfold agO at h
  split at h
  · rename_i hb
    rw [Bool.and_eq_true] at hb
    exact ⟨hb.1, hb.2, h⟩
  · cases h
theorem agO_val {g : Gt} {v w : List Dw} (h : agO g v = some w) : w.length = v.length ∧ (∀ y ∈ w, y.ok) ∧ stB w = true := by
  obtain ⟨h1, h2, h3⟩ := agO_some h
  obtain ⟨l, o, -⟩ := ap_zero (goesG_e h2) h3
  exact ⟨l, o, stB_iff.2 ⟨o, by rw [l]; exact (stB_iff.1 h1).2⟩⟩
/-- A gate at a basis state. -/
theorem send_one : ∀ {L : List (Nat × Dw)} {o : List Dw}, (∀ p ∈ L, p.2.ok ∧ o.getD p.1 .zero = .zero ∧ p.1 < o.length) → L.Pairwise (fun p q => p.1 ≠ q.1) → ∃ o', sendO oneD L o = some o'
  | [], o, _, _ => ⟨o, rfl⟩
  | p :: r, o, h, hd => by
    obtain ⟨h1, h2, h3⟩ := h p (List.mem_cons_self ..)
    have hm := dmul_one h1
    rw [← dMulB_comm, ← dMulV_comm] at hm
    have ha := dadd_zero h1
    rw [List.pairwise_cons] at hd
    rw [sendO, h2, hm.1, hm.2, ha.1, ha.2, Bool.and_self, if_pos rfl]
    refine send_one (fun q hq => ?_) hd.2
    obtain ⟨q1, q2, q3⟩ := h q (List.mem_cons_of_mem _ hq)
    refine ⟨q1, ?_, by rw [List.length_set]; exact q3⟩
    rw [getD_set _ _ _ _ h3, if_neg (hd.1 q hq), q2]
theorem ap_skip (G : Nat → List (Nat × Dw)) (o : List Dw) : ∀ m i, apO G i (List.replicate m .zero) o = some o
  | 0, _ => rfl
  | m + 1, i => by rw [List.replicate_succ, apO, if_pos rfl]; exact ap_skip G o m (i + 1)
theorem ap_basis {G : Nat → List (Nat × Dw)} {o o' : List Dw} : ∀ (m j i : Nat), j < m → sendO oneD (G (i + j)) o = some o' → apO G i ((List.replicate m .zero).set j oneD) o = some o'
  | 0, _, _, h, _ => absurd h (Nat.not_lt_zero _)
  | m + 1, 0, i, _, h => by
    rw [List.replicate_succ, List.set_cons_zero, apO, if_neg (by decide), show G i = G (i + 0) from rfl, h]
    exact ap_skip G o' m (i + 1)
  | m + 1, j + 1, i, hj, h => by
    rw [List.replicate_succ, List.set_cons_succ, apO, if_pos rfl]
    exact ap_basis m j (i + 1) (by omega) (by rw [show i + 1 + j = i + (j + 1) by omega]; exact h)
theorem low_flip : ∀ i : Fin 16, ∀ q : Fin 4, lowN i.val q.val ≠ flipN (lowN i.val q.val) q.val := by decide +kernel
theorem goesL_apart {k : Int} {A B C i : Nat} (hi : i < 16) (hA : A < 4) : (goesL k A B C i).Pairwise (fun p q => p.1 ≠ q.1) := by
  rcases goesL_form k A B C i with ⟨a, m, e⟩ | e
  · rw [e]; exact List.pairwise_singleton _ _
  · rw [e, List.pairwise_cons]
    refine ⟨fun q hq => ?_, List.pairwise_singleton _ _⟩
    rw [List.mem_singleton] at hq
    subst hq
    exact low_flip ⟨i, hi⟩ ⟨A, hA⟩
theorem ag_basis {g : Gt} {N i : Nat} (hg : gtB g (qc N) = true) (hN : 0 < qc N) (hi : i < N) : ∃ o, agO g (basisL (qc N) (i : Int)) = some o := by
  obtain ⟨h1, h2⟩ := basis_st hN hi
  have h16 := qc_len hN
  obtain ⟨hn, -, ha, -, -⟩ := gtB_parts hg
  obtain ⟨o, ho⟩ := send_one (L := goesG g i) (o := List.replicate N .zero) (fun p hp => ⟨(goesL_e _ _ _ _ _ p hp).1, rep_getD _ _, by rw [List.length_replicate]; exact goesG_in hg hi p hp⟩) (goesL_apart (by omega) (by omega))
  refine ⟨o, ?_⟩
  unfold agO
  rw [h1, h2, hg, Bool.and_self, if_pos rfl, basis_eq hN hi]
  exact ap_basis N i 0 hi (by rw [Nat.zero_add]; exact ho)
/-- GateMatrix: the columns, and the matrix. -/
def gmL (g : Gt) (n : Int) : List (List Dw) := (List.range (2 ^ n.toNat)).map fun (i : Nat) => agV g (basisL n (i : Int))
def gmM (g : Gt) (n : Int) : List (List Dw) := if gtB g n then colsM (gmL g n) else []
theorem gmL_len (g : Gt) (n : Int) : (gmL g n).length = 2 ^ n.toNat := by rw [gmL, List.length_map, List.length_range]
theorem agV_of {g : Gt} {v o : List Dw} (h : agO g v = some o) : agV g v = o := by unfold agV; rw [h]; rfl
theorem agB_of {g : Gt} {v o : List Dw} (h : agO g v = some o) : agB g v = true := by unfold agB; rw [h]; rfl
theorem qc_of {n : Int} (h : 1 ≤ n ∧ n ≤ 4) : qc (2 ^ n.toNat) = n := by
  rcases (show n = 1 ∨ n = 2 ∨ n = 3 ∨ n = 4 by omega) with rfl | rfl | rfl | rfl <;> decide
theorem gmL_rows {g : Gt} {n : Int} (hg : gtB g n = true) : ∀ r ∈ gmL g n, r.length = 2 ^ n.toNat := by
  have hn := (gtB_parts hg).1
  have hq := qc_of hn
  intro r hr
  obtain ⟨i, hi, rfl⟩ := List.mem_map.1 hr
  have hi := List.mem_range.1 hi
  obtain ⟨o, ho⟩ := ag_basis (g := g) (N := 2 ^ n.toNat) (by rw [hq]; exact hg) (by rw [hq]; omega) hi
  rw [hq] at ho
  rw [agV_of ho, (agO_val ho).1]
  have hb := (basis_st (n := 2 ^ n.toNat) (by rw [hq]; omega) hi).2
  rwa [hq] at hb
theorem vl_one : vl oneD = rootN 60 ⟨1, 0, 0, 0⟩ := rfl
theorem one_mul' (x : Zw) : Zw.mul ⟨1, 0, 0, 0⟩ x = x := by
  apply Zw.ext4 <;> simp [Zw.mul]
theorem agsF_st : ∀ {L : List Gt} {v w : List Dw}, agsF L v = some w → stB v = true → stB w = true
  | [], v, w, h, hs => by
    rw [agsF] at h
    cases h
    exact hs
  | g :: L, v, w, h, hs => by
    rw [agsF] at h
    split at h
    · rename_i hb
      cases ho : agO g v with
      | none => unfold agB at hb; rw [ho] at hb; cases hb
      | some o =>
        rw [agV_of ho] at h
        exact agsF_st h (agO_val ho).2.2
    · cases h
theorem agV_oks (g : Gt) (v : List Dw) : ∀ y ∈ agV g v, y.ok := by
  unfold agV
  cases h : agO g v with
  | none => intro y hy; cases hy
  | some o => exact (agO_val h).2.1
theorem agsV_ok' (L : List Gt) (v : List Dw) : ∀ y ∈ agsV L v, y.ok := by
  unfold agsV
  cases h : agsO L v with
  | none => intro y hy; cases hy
  | some o =>
    unfold agsO at h
    split at h
    · rename_i hs
      exact (stB_iff.1 (agsF_st h hs)).1
    · cases h
theorem agB_some {g : Gt} {l : List Dw} (h : agB g l = true) : ∃ o, agO g l = some o := Option.isSome_iff_exists.1 h
/-- Lists of gates applied. -/
theorem agsB_some {L : List Gt} {l : List Dw} (h : agsB L l = true) : ∃ o, agsO L l = some o := Option.isSome_iff_exists.1 h
end Go.Proofs.YtlmiebeffdcfhaaGreat
namespace Go.Proofs.YtlmiebeffdcfhaaGreat
/-- The bits of some qubits. -/
def gm (l : List Nat) : Nat := l.foldr (fun q m => 1 <<< q ||| m) 0
def gqN (k : Int) (A B C : Nat) : List Nat := [A, B, C].take (ar k)
/-- A gate looks at and turns over its own qubits' bits alone; its factors are phases, over the root at most; it reaches each place once, GateH twice. -/
def ownB (k : Int) (A B C : Nat) : Bool :=
  ((List.range 16).all fun m => m &&& gm (gqN k A B C) != 0 || (List.range 16).all fun i => decide (goesL k A B C (i ^^^ m) = (goesL k A B C i).map fun p => (p.1 ^^^ m, p.2))) &&
  (((List.range 16).all fun i => (goesL k A B C i).all fun p => decide ((p.1 ^^^ i) &&& gm (gqN k A B C) = p.1 ^^^ i) && (decide (p.1 < 16) && decide (p.2.n ∈ phL))) &&
  (List.range 16).all fun j => decide (((List.range 16).flatMap (goesL k A B C)).countP (fun p => p.1 == j) ≤ if k = 4 then 2 else 1))
theorem own_1 : ([1, 2, 3, 4, 5, 6, 7, 8] : List Int).all (fun k => (List.range 4).all fun A => ownB k A 0 0) = true := by decide +kernel
theorem own_2 : ([9, 10, 11] : List Int).all (fun k => (List.range 4).all fun A => (List.range 4).all fun B => A == B || ownB k A B 0) = true := by decide +kernel
theorem own_3 : ((List.range 4).all fun A => (List.range 4).all fun B => (List.range 4).all fun C => A == B || C == A || C == B || ownB 12 A B C) = true := by decide +kernel
end Go.Proofs.YtlmiebeffdcfhaaGreat
namespace Go.Proofs.YtlmiebeffdcfhaaGreat
open Go.RowKit
theorem zok : Dw.zero.ok := by decide
def Ok (l : List Dw) : Prop := ∀ x ∈ l, x.ok
theorem Ok.set {l : List Dw} (h : Ok l) (j : Nat) {x : Dw} (hx : x.ok) : Ok (l.set j x) := fun y hy => by
  rcases List.mem_or_eq_of_mem_set hy with hy | rfl
  · exact h y hy
  · exact hx
theorem Ok.eb {l : List Dw} (h : Ok l) : Eb l := fun x hx => by
  obtain ⟨_, h0, h1, _⟩ := h x hx
  omega
theorem sendO_ok {x : Dw} : ∀ {L : List (Nat × Dw)} {o o' : List Dw}, sendO x L o = some o' → Ok o → Ok o'
  | [], o, o', h, k => by injection h with h; rw [← h]; exact k
  | p :: L, o, o', h, k => by
    rw [sendO] at h
    split at h
    · rename_i hb
      rw [Bool.and_eq_true] at hb
      exact sendO_ok h (k.set _ (dAddV_ok hb.2))
    · cases h
theorem apO_ok {G : Nat → List (Nat × Dw)} : ∀ {l : List Dw} {i : Nat} {o o' : List Dw}, apO G i l o = some o' → Ok o → Ok o'
  | [], i, o, o', h, k => by injection h with h; rw [← h]; exact k
  | x :: l, i, o, o', h, k => by
    rw [apO] at h
    split at h
    · exact apO_ok h k
    · split at h
      · rename_i o2 ho
        exact apO_ok h (sendO_ok ho k)
      · cases h
theorem agV_ok (g : Gt) (l : List Dw) : Ok (agV g l) := by
  unfold agV
  cases ho : agO g l with
  | none => intro x hx; cases hx
  | some o =>
    unfold agO at ho
    split at ho
    · exact apO_ok ho fun x hx => by rw [(List.mem_replicate.1 hx).2]; exact zok
    · cases ho
theorem agsF_ok : ∀ {L : List Gt} {o o' : List Dw}, agsF L o = some o' → Ok o → Ok o'
  | [], o, o', h, k => by injection h with h; rw [← h]; exact k
  | g :: L, o, o', h, k => by
    rw [agsF] at h
    split at h
    · exact agsF_ok h (agV_ok g o)
    · cases h
theorem agsV_ok (L : List Gt) (l : List Dw) : Ok (agsV L l) := by
  unfold agsV
  cases ho : agsO L l with
  | none => intro x hx; cases hx
  | some o =>
    unfold agsO at ho
    split at ho
    · rename_i hs
      exact agsF_ok ho (stB_iff.1 hs).1
    · cases ho
/-- A circuit's matrix, and whether there is one. -/
def ccB (n : Int) (L : List Gt) : Bool := ciB n L && cirB L n.toNat
def ccM (n : Int) (L : List Gt) : List (List Dw) := if ciB n L then cirM L n.toNat else []
theorem cirM_row {L : List Gt} {n : Nat} : ∀ r ∈ cirM L n, Ok r ∧ r.length = 2 ^ n := by
  unfold cirM
  split
  · intro r hr
    obtain ⟨i, hi, rfl⟩ := List.mem_map.1 hr
    refine ⟨fun x hx => ?_, by rw [col_len, cirC_len]⟩
    obtain ⟨c, hc, rfl⟩ := List.mem_map.1 hx
    obtain ⟨j, hj, rfl⟩ := List.mem_map.1 hc
    rw [List.getD_eq_getElem?_getD]
    cases hk : (agsV L (basisL n j))[i]? with
    | none => exact zok
    | some y => exact agsV_ok _ _ y (List.mem_of_getElem? hk)
  · intro r hr; cases hr
theorem cirM_len {L : List Gt} {n : Nat} : (cirM L n).length ≤ 2 ^ n := by
  unfold cirM
  split
  · rw [colsM_len, cirC_len]; exact Nat.le_refl _
  · exact Nat.zero_le _
theorem ccM_row {n : Int} {L : List Gt} : (ccM n L).length ≤ 16 ∧ ∀ r ∈ ccM n L, Ok r ∧ 1 ≤ r.length ∧ r.length ≤ 16 := by
  unfold ccM
  split
  · rename_i h
    have h4 : 1 ≤ n ∧ n ≤ 4 := by
      unfold ciB at h
      simp only [Bool.and_eq_true, decide_eq_true_eq] at h
      exact h.2.1
    have hp : 2 ^ n.toNat ≤ 16 := by
      rcases (show n.toNat = 1 ∨ n.toNat = 2 ∨ n.toNat = 3 ∨ n.toNat = 4 by omega) with e | e | e | e <;> rw [e] <;> decide
    exact ⟨Nat.le_trans cirM_len hp, fun r hr => ⟨(cirM_row r hr).1, by rw [(cirM_row r hr).2]; exact Nat.one_le_two_pow, by rw [(cirM_row r hr).2]; exact hp⟩⟩
  · exact ⟨Nat.zero_le _, fun r hr => by cases hr⟩
attribute [local irreducible] World.cell?
set_option maxRecDepth 100000 in
set_option maxHeartbeats 3200000 in
theorem scirc (B : Nat) (n : Int) (v : Value) (l : List Gt) (w : World) (hv : gtE.Sl w B v l) (hm : l.length ≤ 1048576) :
    Calls Tryz.prog 18 #[.agg #[.int .i64 n, v]] w fun e w' => (∃ r, e = .returned (.tuple #[r, .bool (ccB n l)]) ∧ DSM w' w.heap.size w'.heap.size r (ccM n l)) ∧ Below w.heap.size w w' := by
  have Hv := Lib.hid (hv.block (w' := w.alloc (.cells #[.int .i64 n, v] 38)) fun k _ hk => Below.heap_alloc _ _ _ hk)
  have Hs := Lib.hid (svalidC B n v l _ Hv.out hm)
  have HC := Lib.hid (heap_alloc_new w (.cells #[.int .i64 n, v] 38))
  have Hb0 := Lib.hid (show Below w.heap.size w (w.alloc (.cells #[.int .i64 n, v] 38)) by go_grown)
  obtain ⟨c0, c1⟩ := blk_cells2 HC.out
  have hCl := lt_of_block HC.out
  obtain ⟨a, cap, rfl, hcap, hr⟩ := hv
  clear hr
  cases hok : ciB n l with
  | false =>
    rw [show ccB n l = false by unfold ccB; rw [hok]; rfl, show ccM n l = [] by unfold ccM; rw [hok]; rfl]
    rw [hok] at Hs
    clear hok
    go_enter Tryz.func18, Tryz.ntmps18
    go_wp2_with fail
    refine (Hs.out).mono ?_
    rintro e w1 ⟨rfl, hb1⟩
    have Hb1 := Lib.hid (Hb0.out.trans (hb1.mono (by omega)))
    have hs1 := hb1.size
    clear hb1
    go_wp2_with fail
    go_returns
    exact ⟨⟨_, rfl, DSM.nil⟩, by have := Hb1.out; go_grown⟩
  | true =>
    have h4 : 1 ≤ n ∧ n ≤ 4 := by
      unfold ciB at hok
      simp only [Bool.and_eq_true, decide_eq_true_eq] at hok
      exact hok.2.1
    rw [show ccB n l = cirB l n.toNat by unfold ccB; rw [hok]; rfl, show ccM n l = cirM l n.toNat by unfold ccM; rw [hok]; rfl]
    rw [hok] at Hs
    clear hok
    obtain ⟨m, rfl⟩ : ∃ m : Nat, n = m := ⟨n.toNat, by omega⟩
    rw [Int.toNat_natCast]
    have Hm := Lib.hid (fun W h => smat B m (.slice a l.length cap) l W h (by omega) (by omega) hm)
    generalize cirB l m = SB at *
    generalize cirM l m = SM at *
    clear h4
    go_enter Tryz.func18, Tryz.ntmps18
    go_wp2_with fail
    refine (Hs.out).mono ?_
    rintro e w1 ⟨rfl, hb1⟩
    have hs1 := hb1.size
    have HC1 := Lib.hid (below_blk hb1 hCl HC.out)
    have Hv1 := Lib.hid (Hv.out.block (w' := w1) fun k _ hk => hb1.block k hk)
    have Hc := Lib.hid (Hm.out _ Hv1.out)
    have Hb1 := Lib.hid (Hb0.out.trans (hb1.mono (by omega)))
    clear hb1 c0 c1
    obtain ⟨c0, c1⟩ := blk_cells2 HC1.out
    have hCl1 := lt_of_block HC1.out
    go_wp2_with fail
    refine (Hc.out).mono ?_
    rintro e w2 ⟨⟨r, rfl, hd⟩, hb2⟩
    have hw1 := Hb1.out.size
    have Hd := Lib.hid (hd.mono (D := w.heap.size) (E := w2.heap.size) hw1 (Nat.le_refl _))
    have Hb2 := Lib.hid (Hb1.out.trans (hb2.mono hw1))
    clear hd hb2
    go_wp2_with fail
    go_returns
    exact ⟨⟨_, rfl, Hd.out⟩, Hb2.out⟩
end Go.Proofs.YtlmiebeffdcfhaaGreat
