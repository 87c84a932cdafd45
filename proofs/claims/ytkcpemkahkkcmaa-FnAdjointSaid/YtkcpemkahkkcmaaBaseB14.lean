/- BaseB14: several of our texts in one: AgM ApG. -/
import Derived.Test.YtkcpemkahkkcmaaBaseB12
import Derived.Test.YtkcpemkahkkcmaaBaseB13
import Derived.Test.YtkcpemkahkkcmaaGsL
import Derived.Test.YtkcpemkahkkcmaaBaseB05
import Derived.Test.YtkcpemkahkkcmaaBaseB20
import Derived.Test.YtkcpemkahkkcmaaBaseB10
import Derived.Test.YtkcpemkahkkcmaaBaseB11
namespace Go.Proofs.Ytkcpemkahkkcmaa
/-- One place and a phase, or the two places of a GateH. -/
theorem goesL_form (k : Int) (A B C i : Nat) : (∃ (a : Nat) (m : Int), goesL k A B C i = [(a, dPh m)]) ∨ goesL k A B C i = [(lowN i A, isV 1), (flipN (lowN i A) A, if bitN i A then dNegV (isV 1) else isV 1)] := by
  have hp : ∀ (a : Nat) (t : Bool) (m : Int), ∃ (b : Nat) (n : Int), [(a, if t = true then dPh m else dPh 0)] = [(b, dPh n)] := fun a t m => by
    cases t
    · exact ⟨a, 0, rfl⟩
    · exact ⟨a, m, rfl⟩
  unfold goesL
  by_cases h1 : k = 1
  · rw [if_pos h1]; exact .inl (⟨_, 0, rfl⟩)
  rw [if_neg h1]
  by_cases h2 : k = 2
  · rw [if_pos h2]; exact .inl (⟨_, _, rfl⟩)
  rw [if_neg h2]
  by_cases h3 : k = 3
  · rw [if_pos h3]; exact .inl (hp _ _ _)
  rw [if_neg h3]
  by_cases h5 : k = 5
  · rw [if_pos h5]; exact .inl (hp _ _ _)
  rw [if_neg h5]
  by_cases h6 : k = 6
  · rw [if_pos h6]; exact .inl (hp _ _ _)
  rw [if_neg h6]
  by_cases h7 : k = 7
  · rw [if_pos h7]; exact .inl (hp _ _ _)
  rw [if_neg h7]
  by_cases h8 : k = 8
  · rw [if_pos h8]; exact .inl (hp _ _ _)
  rw [if_neg h8]
  by_cases h9 : k = 9
  · rw [if_pos h9]; exact .inl (⟨_, 0, rfl⟩)
  rw [if_neg h9]
  by_cases h10 : k = 10
  · rw [if_pos h10]; exact .inl (hp _ _ _)
  rw [if_neg h10]
  by_cases h12 : k = 12
  · rw [if_pos h12]; exact .inl (⟨_, 0, rfl⟩)
  rw [if_neg h12]
  by_cases h11 : k = 11
  · rw [if_pos h11]; exact .inl (⟨_, 0, rfl⟩)
  rw [if_neg h11]
  exact .inr rfl
theorem goesL_e (k : Int) (A B C i : Nat) : ∀ p ∈ goesL k A B C i, p.2.ok ∧ p.2.e.toNat ≤ 1 := by
  have hI : (isV 1).ok ∧ (isV 1).e.toNat ≤ 1 := by decide
  have hN : (dNegV (isV 1)).ok ∧ (dNegV (isV 1)).e.toNat ≤ 1 := by decide
  intro p hp
  rcases goesL_form k A B C i with ⟨a, m, e⟩ | e
  · rw [e, List.mem_singleton] at hp
    subst hp
    exact ⟨dPh_ok m, (by decide : (0 : Int).toNat ≤ 1)⟩
  · rw [e] at hp
    rcases List.mem_cons.1 hp with rfl | hp
    · exact hI
    · rw [List.mem_singleton] at hp
      subst hp
      cases bitN i A
      · exact hI
      · exact hN
theorem goesG_e {g : Gt} {N : Nat} (hg : gtB g (qc N) = true) : ∀ i, i < N → ∀ p ∈ goesG g i, p.1 < N ∧ p.2.e.toNat ≤ 1 := fun _ hi p hp => ⟨goesG_in hg hi p hp, (goesL_e _ _ _ _ _ p hp).2⟩
theorem agO_some {g : Gt} {v w : List Dw} (h : agO g v = some w) : stB v = true ∧ gtB g (qc v.length) = true ∧ apO (goesG g) 0 v (List.replicate v.length .zero) = some w := by
  unfold agO at h
  split at h
  · rename_i hb
    rw [Bool.and_eq_true] at hb
    exact ⟨hb.1, hb.2, h⟩
  · cases h
theorem agO_val {g : Gt} {v w : List Dw} (h : agO g v = some w) : w.length = v.length ∧ (∀ y ∈ w, y.ok) ∧ stB w = true := by
  obtain ⟨h1, h2, h3⟩ := agO_some h
  obtain ⟨l, o, -⟩ := ap_zero (goesG_e h2) h3
  exact ⟨l, o, stB_iff.2 ⟨o, by rw [l]; exact (stB_iff.1 h1).2⟩⟩
/-- A gate at a basis state. -/
theorem send_one : ∀ {L : List (Nat × Dw)} {o : List Dw}, (∀ p ∈ L, p.2.ok ∧ o.getD p.1 .zero = .zero ∧ p.1 < o.length) → L.Pairwise (fun p q => p.1 ≠ q.1) → ∃ o', sendO oneD L o = some o'
  | [], o, _, _ => ⟨o, rfl⟩
  | p :: r, o, h, hd => by
    obtain ⟨h1, h2, h3⟩ := h p (List.mem_cons_self ..)
    have hm := dmul_one h1
    rw [← dMulB_comm, ← dMulV_comm] at hm
    have ha := dadd_zero h1
    rw [List.pairwise_cons] at hd
    rw [sendO, h2, hm.1, hm.2, ha.1, ha.2, Bool.and_self, if_pos rfl]
    refine send_one (fun q hq => ?_) hd.2
    obtain ⟨q1, q2, q3⟩ := h q (List.mem_cons_of_mem _ hq)
    refine ⟨q1, ?_, by rw [List.length_set]; exact q3⟩
    rw [getD_set _ _ _ _ h3, if_neg (hd.1 q hq), q2]
theorem ap_skip (G : Nat → List (Nat × Dw)) (o : List Dw) : ∀ m i, apO G i (List.replicate m .zero) o = some o
  | 0, _ => rfl
  | m + 1, i => by rw [List.replicate_succ, apO, if_pos rfl]; exact ap_skip G o m (i + 1)
theorem ap_basis {G : Nat → List (Nat × Dw)} {o o' : List Dw} : ∀ (m j i : Nat), j < m → sendO oneD (G (i + j)) o = some o' → apO G i ((List.replicate m .zero).set j oneD) o = some o'
  | 0, _, _, h, _ => absurd h (Nat.not_lt_zero _)
  | m + 1, 0, i, _, h => by
    rw [List.replicate_succ, List.set_cons_zero, apO, if_neg (by decide), show G i = G (i + 0) from rfl, h]
    exact ap_skip G o' m (i + 1)
  | m + 1, j + 1, i, hj, h => by
    rw [List.replicate_succ, List.set_cons_succ, apO, if_pos rfl]
    exact ap_basis m j (i + 1) (by omega) (by rw [show i + 1 + j = i + (j + 1) by omega]; exact h)
theorem low_flip : ∀ i : Fin 16, ∀ q : Fin 4, lowN i.val q.val ≠ flipN (lowN i.val q.val) q.val := by decide +kernel
theorem goesL_apart {k : Int} {A B C i : Nat} (hi : i < 16) (hA : A < 4) : (goesL k A B C i).Pairwise (fun p q => p.1 ≠ q.1) := by
  rcases goesL_form k A B C i with ⟨a, m, e⟩ | e
  · rw [e]; exact List.pairwise_singleton _ _
  · rw [e, List.pairwise_cons]
    refine ⟨fun q hq => ?_, List.pairwise_singleton _ _⟩
    rw [List.mem_singleton] at hq
    subst hq
    exact low_flip ⟨i, hi⟩ ⟨A, hA⟩
theorem ag_basis {g : Gt} {N i : Nat} (hg : gtB g (qc N) = true) (hN : 0 < qc N) (hi : i < N) : ∃ o, agO g (basisL (qc N) (i : Int)) = some o := by
  obtain ⟨h1, h2⟩ := basis_st hN hi
  have h16 := qc_len hN
  obtain ⟨hn, -, ha, -, -⟩ := gtB_parts hg
  obtain ⟨o, ho⟩ := send_one (L := goesG g i) (o := List.replicate N .zero) (fun p hp => ⟨(goesL_e _ _ _ _ _ p hp).1, rep_getD _ _, by rw [List.length_replicate]; exact goesG_in hg hi p hp⟩) (goesL_apart (by omega) (by omega))
  refine ⟨o, ?_⟩
  unfold agO
  rw [h1, h2, hg, Bool.and_self, if_pos rfl, basis_eq hN hi]
  exact ap_basis N i 0 hi (by rw [Nat.zero_add]; exact ho)
/-- GateMatrix: the columns, and the matrix. -/
def gmL (g : Gt) (n : Int) : List (List Dw) := (List.range (2 ^ n.toNat)).map fun (i : Nat) => agV g (basisL n (i : Int))
def gmM (g : Gt) (n : Int) : List (List Dw) := if gtB g n then colsM (gmL g n) else []
theorem gmL_len (g : Gt) (n : Int) : (gmL g n).length = 2 ^ n.toNat := by rw [gmL, List.length_map, List.length_range]
theorem agV_of {g : Gt} {v o : List Dw} (h : agO g v = some o) : agV g v = o := by unfold agV; rw [h]; rfl
theorem qc_of {n : Int} (h : 1 ≤ n ∧ n ≤ 4) : qc (2 ^ n.toNat) = n := by
  rcases (show n = 1 ∨ n = 2 ∨ n = 3 ∨ n = 4 by omega) with rfl | rfl | rfl | rfl <;> decide
theorem gmL_rows {g : Gt} {n : Int} (hg : gtB g n = true) : ∀ r ∈ gmL g n, r.length = 2 ^ n.toNat := by
  have hn := (gtB_parts hg).1
  have hq := qc_of hn
  intro r hr
  obtain ⟨i, hi, rfl⟩ := List.mem_map.1 hr
  have hi := List.mem_range.1 hi
  obtain ⟨o, ho⟩ := ag_basis (g := g) (N := 2 ^ n.toNat) (by rw [hq]; exact hg) (by rw [hq]; omega) hi
  rw [hq] at ho
  rw [agV_of ho, (agO_val ho).1]
  have hb := (basis_st (n := 2 ^ n.toNat) (by rw [hq]; omega) hi).2
  rwa [hq] at hb
/-- Gates one behind the other: at any place the first and then the rest. -/
theorem agsF_app : ∀ (L M : List Gt) (v : List Dw), agsF (L ++ M) v = (agsF L v).bind (agsF M)
  | [], M, v => rfl
  | g :: L, M, v => by
    rw [List.cons_append, agsF, agsF]
    split
    · exact agsF_app L M _
    · rfl
theorem agsF_st : ∀ {L : List Gt} {v w : List Dw}, agsF L v = some w → stB v = true → stB w = true
  | [], v, w, h, hs => by
    rw [agsF] at h
    cases h
    exact hs
  | g :: L, v, w, h, hs => by
    rw [agsF] at h
    split at h
    · rename_i hb
      cases ho : agO g v with
      | none => unfold agB at hb; rw [ho] at hb; cases hb
      | some o =>
        rw [agV_of ho] at h
        exact agsF_st h (agO_val ho).2.2
    · cases h
theorem agV_oks (g : Gt) (v : List Dw) : ∀ y ∈ agV g v, y.ok := by
  unfold agV
  cases h : agO g v with
  | none => intro y hy; cases hy
  | some o => exact (agO_val h).2.1
theorem agsV_ok' (L : List Gt) (v : List Dw) : ∀ y ∈ agsV L v, y.ok := by
  unfold agsV
  cases h : agsO L v with
  | none => intro y hy; cases hy
  | some o =>
    unfold agsO at h
    split at h
    · rename_i hs
      exact (stB_iff.1 (agsF_st h hs)).1
    · cases h
theorem ags_split {L : List Gt} {v w : List Dw} (k : Nat) (h : agsO L v = some w) : ∃ u, agsO (L.take k) v = some u ∧ agsO (L.drop k) u = some w := by
  unfold agsO at h
  split at h
  · rename_i hs
    rw [← List.take_append_drop k L, agsF_app] at h
    cases hu : agsF (L.take k) v with
    | none => rw [hu] at h; cases h
    | some u =>
      rw [hu] at h
      refine ⟨u, by unfold agsO; rw [if_pos hs, hu], ?_⟩
      unfold agsO
      rw [if_pos (agsF_st hu hs)]
      exact h
  · cases h
/-- Lists of gates applied. -/
theorem agsB_some {L : List Gt} {l : List Dw} (h : agsB L l = true) : ∃ o, agsO L l = some o := Option.isSome_iff_exists.1 h
theorem ags_splitV {L : List Gt} {l : List Dw} (k : Nat) (h : agsB L l = true) : agsB (L.take k) l = true ∧ agsB (L.drop k) (agsV (L.take k) l) = true ∧ agsV (L.drop k) (agsV (L.take k) l) = agsV L l := by
  obtain ⟨o, ho⟩ := agsB_some h
  obtain ⟨u, h1, h2⟩ := ags_split k ho
  have e1 : agsV (L.take k) l = u := by unfold agsV; rw [h1]; rfl
  refine ⟨by unfold agsB; rw [h1]; rfl, by rw [e1]; unfold agsB; rw [h2]; rfl, ?_⟩
  rw [e1]
  unfold agsV
  rw [h2, ho]
end Go.Proofs.Ytkcpemkahkkcmaa
namespace Go.Proofs.Ytkcpemkahkkcmaa
open Go.RowKit
theorem GsIn.of_slice {w : World} {B n cap : Nat} {a : Option Addr} {l : List Gt} (h : gtE.Sl w B (.slice a n cap) l) (hm : l.length ≤ 1048576) : GsIn w w.heap.size a l := by
  obtain ⟨a', cap', e, h'⟩ := GsIn.of_sl h hm
  injection e with e1
  rw [e1]
  exact h'
theorem GsIn.empty {w : World} {B : Nat} {a : Option Addr} {l : List Gt} (h : l.length = 0) : GsIn w B a l := ⟨by omega, fun h0 => absurd h0 (by omega)⟩
theorem GsIn.drop_slice {w : World} {B n cap k : Nat} {a : Option Addr} {l : List Gt} (h : gtE.Sl w B (.slice a n cap) l) (hm : l.length ≤ 1048576) : GsIn w w.heap.size (Option.map (fun x => x.add (k * 4)) a) (l.drop k) := by
  by_cases h0 : 0 < l.length
  · have hg := GsIn.of_slice h hm
    obtain ⟨a', cap', e, -, h3⟩ := h
    injection e with e1
    obtain ⟨g, e2, -, -⟩ := h3 h0
    subst e1 e2
    have hd := hg.drop k
    have ha : (⟨g, 0, none⟩ : Addr).add (k * 4) = ⟨g, 0 + k * 4, none⟩ := by
      unfold Addr.add
      by_cases hk : k * 4 = 0
      · simp [hk]
      · simp [hk]
    rw [Option.map_some, ha]
    exact hd
  · exact GsIn.empty (by rw [List.length_drop]; omega)
theorem szGfit (a0 : Option Addr) (n cap : Nat) (l : Int) (w : World) (h : (n : Int) ≤ l) (l0 : 0 ≤ l) (l1 : l ≤ 1048576) :
    Calls Try.prog 59 #[.slice a0 n cap, .int .i64 l] w fun e w' => e = .returned (.int .i64 (l - n)) ∧ w = w' := by
  have h2 := szGs a0 n cap l w (by unfold maxLen; omega) l0 l1
  rwa [if_pos h] at h2
theorem szGbig (a0 : Option Addr) (n cap : Nat) (l : Int) (w : World) (hn : n ≤ maxLen) (h : ¬ (n : Int) ≤ l) (l0 : 0 ≤ l) (l1 : l ≤ 1048576) :
    Calls Try.prog 59 #[.slice a0 n cap, .int .i64 l] w fun e w' => e = .returned (.int .i64 (-1)) ∧ w = w' := by
  have h2 := szGs a0 n cap l w hn l0 l1
  rwa [if_neg h] at h2
/-- The marks of a state behind those of m gates. -/
theorem markD4 (B C m : Nat) (v : Value) (l : List Dw) (hm' : m ≤ 1048576) (w : World) (hv : DSc w B C v l) (hm : l.length ≤ 1048576) :
    Calls Try.prog 57 #[v, .int .i64 (1 + (m : Int) * 4)] w fun e w' => e = .returned (.int .i64 (1 + (m : Int) * 4 + (l.length : Int) * 5)) ∧ DSc w' B C v (marks (1 + m * 4) l.length) ∧ Mid B C w w' := by
  have h := markDs B C (1 + m * 4) v l w hv hm (by omega)
  rw [show ((1 + m * 4 : Nat) : Int) = 1 + (m : Int) * 4 by simp] at h
  refine h.mono ?_
  rintro e w1 ⟨rfl, h⟩
  exact ⟨by simp, h⟩
theorem agsV_le (L : List Gt) (l : List Dw) : (agsV L l).length ≤ l.length := by
  cases h : agsB L l with
  | true => rw [agsV_len h]; exact Nat.le_refl _
  | false => rw [agsV_no h]; exact Nat.zero_le _
theorem pow_le16 {n : Int} (h : 1 ≤ n ∧ n ≤ 4) : 2 ^ n.toNat ≤ 16 := by
  rcases (show n = 1 ∨ n = 2 ∨ n = 3 ∨ n = 4 by omega) with rfl | rfl | rfl | rfl <;> decide
theorem gmM_amps (g : Gt) (n : Int) : (gmM g n).length ≤ 1048576 ∧ amps (gmM g n) ≤ 1048576 := by
  unfold gmM
  split
  · rename_i h
    have h16 := pow_le16 (gtB_parts h).1
    have hL := gmL_len g n
    have hc : (colsM (gmL g n)).length = 2 ^ n.toNat := by rw [colsM_len, hL]
    have hr := amps_rect (n := 2 ^ n.toNat) (M := colsM (gmL g n)) fun r hr => by
      obtain ⟨k, -, rfl⟩ := List.mem_map.1 hr
      rw [col_len, hL]
    refine ⟨by omega, ?_⟩
    rw [hr, hc]
    exact Nat.le_trans (Nat.mul_le_mul h16 h16) (by decide)
  · exact ⟨by decide, by decide⟩
theorem gmL_step {g : Gt} {n j : Nat} (hj : j < 2 ^ n) : (gmL g n).take (j + 1) = (gmL g n).take j ++ [agV g (basisL n j)] := by
  rw [List.take_add_one, gmL, Int.toNat_natCast, List.getElem?_map, List.getElem?_range hj]
  rfl
attribute [local irreducible] World.cell?
set_option maxRecDepth 100000 in
set_option maxHeartbeats 3200000 in
theorem smatG (g : Gt) (n : Int) (w : World) (n0 : -9223372036854775808 ≤ n) (n1 : n ≤ 9223372036854775807) :
    Calls Try.prog 63 #[(.agg #[.int .i64 g.k, .int .i64 g.a, .int .i64 g.b, .int .i64 g.c]), .int .i64 n] w fun e w' => (∃ r, e = .returned (.tuple #[r, .bool (gtB g n)]) ∧ DSM w' w.heap.size w'.heap.size r (gmM g n)) ∧ Below w.heap.size w w' := by
  obtain ⟨i0, hi, hz0, hz1, hz2⟩ := info_parts infoDs
  have H1 := Lib.hid (fun W => svalidG g n W)
  cases hg : gtB g n with
  | false =>
    rw [hg] at H1
    rw [show gmM g n = [] from if_neg (by rw [hg]; decide)]
    clear hg
    have HGa := Lib.hid (heap_alloc_new w (.cells #[.int .i64 g.k, .int .i64 g.a, .int .i64 g.b, .int .i64 g.c] 66))
    obtain ⟨c0, c1, c2, c3⟩ := blk_cells HGa.out
    go_enter Try.func63, Try.ntmps63
    go_wp2_with fail
    refine (H1.out _).mono ?_
    rintro e w1 ⟨rfl, hb1⟩
    have Hb1 := Lib.hid (below_up (B := w.heap.size) (w := w) (by go_grown) hb1 (by simp))
    have hs1 := Hb1.out.size
    clear hb1 c0 c1 c2 c3
    go_wp2_with fail
    go_returns
    exact ⟨⟨_, rfl, DSM.nil⟩, by have := Hb1.out; go_grown⟩
  | true =>
    rw [hg] at H1
    rw [show gmM g n = colsM (gmL g n) from if_pos hg]
    obtain ⟨h1, h4⟩ := (gtB_parts hg).1
    obtain ⟨m, rfl⟩ : ∃ m : Nat, n = m := ⟨n.toNat, by omega⟩
    obtain ⟨N, hN⟩ : ∃ N, N = 2 ^ m := ⟨_, rfl⟩
    have hN16 : 2 ≤ N ∧ N ≤ 16 := by rw [hN]; rcases (show m = 1 ∨ m = 2 ∨ m = 3 ∨ m = 4 by omega) with rfl | rfl | rfl | rfl <;> decide
    have hw : wrap64 (2 ^ m) = (N : Int) := by rw [hN]; rcases (show m = 1 ∨ m = 2 ∨ m = 3 ∨ m = 4 by omega) with rfl | rfl | rfl | rfl <;> decide +kernel
    have Hbs := Lib.hid (fun (j : Nat) W => sbasis m j W)
    have Hbl := Lib.hid (fun (j : Nat) (h : j < N) => (basis_len (n := m) (j := j) (by omega) (by omega) (by rw [← hN]; exact h)).trans hN.symm)
    have Hap := Lib.hid (fun (j : Nat) (hj : j < N) D (u : Value) W (h : DSl W D u (basisL m j)) => sapG D g u (basisL m j) W h (by rw [Hbl.out j hj]; omega))
    have Hst := Lib.hid (fun (j : Nat) (hj : j < N) => gmL_step (g := g) (n := m) (j := j) (by rw [← hN]; exact hj))
    have hcl : (gmL g m).length = N := by rw [gmL_len, Int.toNat_natCast, hN]
    have Hcl := Lib.hid hcl
    have HC := Lib.hid (fun D E c W (h : DSM W D E c (gmL g m)) => scolumns D E c (gmL g m) W h (fun r hr => by rw [gmL_rows hg r hr, gmL_len]; exact Nat.le_refl _) (by omega))
    generalize gmL g m = M at *
    clear hN hg hcl
    have HGa := Lib.hid (heap_alloc_new w (.cells #[.int .i64 g.k, .int .i64 g.a, .int .i64 g.b, .int .i64 g.c] 66))
    obtain ⟨c0, c1, c2, c3⟩ := blk_cells HGa.out
    go_enter Try.func63, Try.ntmps63
    go_wp2_with fail
    refine (H1.out _).mono ?_
    rintro e w0 ⟨rfl, hb0⟩
    have hza : (w.alloc (.cells #[.int .i64 g.k, .int .i64 g.a, .int .i64 g.b, .int .i64 g.c] 66)).heap.size = w.heap.size + 1 := by simp
    have HG0 := Lib.hid (below_blk hb0 (lt_of_block HGa.out) HGa.out)
    have Hb0 := Lib.hid (below_up (B := w.heap.size) (w := w) (by go_grown) hb0 (by simp))
    have hs0 := hb0.size
    rw [hza] at hs0
    clear hb0 c0 c1 c2 c3 HGa
    go_wp2_with fail
    go_loopg [6, 7] N (fun m out i wr => ∃ (j : Nat) (vs : List Value), m = N - j ∧ j ≤ N ∧ i = .int .i64 j ∧ Hid (wr.ownsRow w0.heap.size 31 1 out j vs) ∧ Hid (RwS wr w0.heap.size wr.heap.size vs (M.take j)) ∧ Hid (wr.heap[w.heap.size]? = some (.cells #[.int .i64 g.k, .int .i64 g.a, .int .i64 g.b, .int .i64 g.c] 66 (0, 0))) ∧ Hid (Below w.heap.size w wr) ∧ w0.heap.size < wr.heap.size)
    case atStart => exact ⟨0, [], rfl, Nat.zero_le _, rfl, ownM_new rfl, RwS.nil, alloc_blk _ HG0.out, Hb0.out.alloc (by omega) _, by simp⟩
    case round =>
      obtain ⟨j, vs, rfl, hj, rfl, Hown, Hrows, HGr, Hb, hsz⟩ := hrel
      have hs := Hb.out.size
      by_cases hlt : j < N
      · have hjl : (j : Int) < N := by omega
        have Hc := Lib.hid (fun W => Hbs.out j W)
        have Ha := Lib.hid (fun D u W => Hap.out j hlt D u W)
        have Hstp := Lib.hid (Hst.out j hlt)
        generalize agB g (basisL m j) = t at *
        generalize agV g (basisL m j) = r at *
        generalize basisL m j = bl at *
        obtain ⟨c0, c1, c2, c3⟩ := blk_cells HGr.out
        have hgl := lt_of_block HGr.out
        have hS : G1 w w.heap.size g wr := ⟨c0, c1, c2, c3, hgl, Hb.out⟩
        have HgB := Lib.hid HGr.out
        clear c0 c1 c2 c3
        go_upto_region 7 with fail
        go_region_held3 (fun w' => w'.cell? ⟨w.heap.size, 0, none⟩ = some (.int .i64 g.k) ∧ w'.cell? ⟨w.heap.size, 1, none⟩ = some (.int .i64 g.a) ∧ w'.cell? ⟨w.heap.size, 2, none⟩ = some (.int .i64 g.b) ∧ w'.cell? ⟨w.heap.size, 3, none⟩ = some (.int .i64 g.c) ∧ w.heap.size < w'.heap.size ∧ Below w.heap.size w w') (first | (show G1 w w.heap.size g _; (with_reducible exact hS.drew)) | (show G1 w w.heap.size g _; (with_reducible refine G1.below ?_ hbR); first | assumption | exact ⟨by assumption, by assumption, by assumption, by assumption, by assumption, by assumption⟩))
          (first
            | (go_at_call 21; (refine (Hc.out _).mono ?_); rintro e wR ⟨cR, rfl, hdR, hbR⟩; have HcR := Lib.hid hdR; have HbR := Lib.hid hbR)
            | (go_at_call 52; (refine (Ha.out _ _ _ HcR.out).mono ?_); rintro e wQ ⟨⟨qR, rfl, hdq⟩, hbR⟩; have HqR := Lib.hid hdq; have HbQ := Lib.hid hbR))
        all_goals
          have hsR := HbR.out.size
          have hsQ := HbQ.out.size
          have hsd : wr.drew.heap.size = wr.heap.size := rfl
          have Hb3 := Lib.hid (below_up Hb.out.drew HbR.out (by omega))
          have Hown3 := Lib.hid (row_below Hown.out.drew HbR.out)
          have Hrows3 := Lib.hid (((show RwS wr.drew w0.heap.size wr.heap.size vs (M.take j) from Hrows.out).block fun k _ _ hk => HbR.out.block k hk).mono (Nat.le_refl _) hsR)
          have HG3 := Lib.hid (below_blk HbR.out (show w.heap.size < wr.drew.heap.size by omega) (show wr.drew.heap[w.heap.size]? = _ from HgB.out))
          have hs3 := Hb3.out.size
          have Hown4 := Lib.hid (row_below Hown3.out HbQ.out)
          have Hrows4 := Lib.hid (Hrows3.out.upto.snoc HqR.out.upto (by omega) hsQ fun k _ _ hk => HbQ.out.block k hk)
          have Hb4 := Lib.hid (below_up Hb3.out HbQ.out hs3)
          have HG4 := Lib.hid (below_blk HbQ.out (lt_of_block HG3.out) HG3.out)
          have hs4 := Hb4.out.size
          obtain ⟨p, pc, rfl, -, -⟩ := HqR.out
          clear Hown3 Hrows3 Hb3 HG3 Hown Hrows Hb HGr hS HqR HcR
          rw [← Hstp.out] at Hrows4
          go_wp2_with (first
            | (at_builtin; refine wpList_append_own _ rfl _ _ 24 rfl w0.heap.size 31 i0 (.slice none 0 0) 1 24 Try.underlying24 hi hz0 hz1 hz2 rfl (by decide) _ _ _ rfl (Hown4.out.alloc _) ⟨wQ.heap.size, 0, none⟩ 1 1 [.slice p r.length pc] rfl rfl (slice_new _ _ _) (by intro u hu; simp at hu; subst hu; rfl) ?d3 ?d4 ?d5 ?_))
          case d3 => unfold maxLen; omega
          case d4 => omega
          case d5 => first | omega | (simp; omega)
          intro v' w5 hown' hgrow _
          have HB5 := Lib.hid ((Hb4.out.alloc hs4 (.cells #[.slice p r.length pc] 31)).grown hgrow (by simp; omega) (fun q hq => by have := (Hown4.out.lt q hq).1; omega))
          have Hrows5 := Lib.hid (((Hrows4.out.block fun k _ _ hk => Below.heap_alloc _ _ _ hk).grown (Hown4.out.alloc _) hgrow).upto)
          have HG5 := Lib.hid (grown_blk hgrow (alloc_blk _ HG4.out) (fun e => by have := (Hown4.out.lt _ e.symm).1; omega))
          have Hown5 := Lib.hid hown'
          have hz5 := hgrow.size
          clear hown' hgrow
          go_wp2_with fail
          go_roundg (N - (j + 1))
          case measure => omega
          case rel => exact ⟨j + 1, _, rfl, by omega, by go_num, Hown5.out, Hrows5, HG5, HB5, by simp at hz5; omega⟩
      · obtain rfl : j = N := by omega
        have hown := Hown.out
        have hrows := Hrows.out
        rw [List.take_of_length_le (by rw [Hcl.out]; exact Nat.le_refl _)] at hrows
        have hd := DSM.of_own (M := M) (by rw [Hcl.out]; exact hown) hrows (Nat.le_refl _)
        have HF := Lib.hid (HC.out _ _ _ wr hd)
        clear hown hrows hd Hown Hrows
        go_wp2_with fail
        refine (HF.out).mono ?_
        rintro e w6 ⟨u, rfl, hdu, hb6⟩
        have Hdu := Lib.hid (hdu.mono (D := w.heap.size) (E := w6.heap.size) hs (Nat.le_refl _))
        have Hb6 := Lib.hid (Hb.out.trans (hb6.mono hs))
        clear hb6 hdu
        go_wp2_with fail
        go_returns
        exact ⟨⟨_, rfl, Hdu.out⟩, Hb6.out⟩
end Go.Proofs.Ytkcpemkahkkcmaa
