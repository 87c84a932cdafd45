/- BaseB19: several of our texts in one: AgN ApM AgM LyN CmA. -/
import Derived.Test.YtlmiebeffdcfhaaGreatUBaseC04
import Derived.Test.YtlmiebeffdcfhaaGreatUBaseB17
import Derived.Test.YtlmiebeffdcfhaaGreatUBaseB15
import Derived.Test.YtlmiebeffdcfhaaGreatUBaseB18
namespace Go.Proofs.YtlmiebeffdcfhaaGreat
end Go.Proofs.YtlmiebeffdcfhaaGreat
namespace Go.Proofs.YtlmiebeffdcfhaaGreat
open Go.RowKit
theorem agV_len2 {g : Gt} {l : List Dw} (h : agB g l = true) : (agV g l).length = l.length := by
  unfold agB at h
  unfold agV
  cases ho : agO g l with
  | none => rw [ho] at h; cases h
  | some o =>
    unfold agO at ho
    split at ho
    · have := apO_len ho
      rw [List.length_replicate] at this
      simpa using this
    · cases ho
theorem agsF_len : ∀ {L : List Gt} {o o' : List Dw}, agsF L o = some o' → o'.length = o.length
  | [], o, o', h => by injection h with h; rw [h]
  | g :: L, o, o', h => by
    rw [agsF] at h
    split at h
    · rename_i hb
      rw [agsF_len h, agV_len2 hb]
    · cases h
theorem agsV_len {L : List Gt} {l : List Dw} (h : agsB L l = true) : (agsV L l).length = l.length := by
  unfold agsB at h
  unfold agsV
  cases ho : agsO L l with
  | none => rw [ho] at h; cases h
  | some o =>
    unfold agsO at ho
    split at ho
    · simpa using agsF_len ho
    · cases ho
/-- The columns of a circuit's map on n qubits, and whether each is found. -/
def cirC (L : List Gt) (n : Nat) : List (List Dw) := (List.range (2 ^ n)).map fun (i : Nat) => agsV L (basisL n i)
def cirB (L : List Gt) (n : Nat) : Bool := (List.range (2 ^ n)).all fun (i : Nat) => agsB L (basisL n i)
def cirM (L : List Gt) (n : Nat) : List (List Dw) := if cirB L n then colsM (cirC L n) else []
theorem cirC_len (L : List Gt) (n : Nat) : (cirC L n).length = 2 ^ n := by rw [cirC, List.length_map, List.length_range]
theorem cirC_step {L : List Gt} {n j : Nat} (hj : j < 2 ^ n) : (cirC L n).take (j + 1) = (cirC L n).take j ++ [agsV L (basisL n j)] := by
  have hc : (cirC L n)[j]? = some (agsV L (basisL n j)) := by unfold cirC; rw [List.getElem?_map, List.getElem?_range hj]; rfl
  rw [List.take_add_one, hc]
  rfl
theorem basis_len {n j : Nat} (h1 : 1 ≤ n) (h4 : n ≤ 4) (hj : j < 2 ^ n) : (basisL n j).length = 2 ^ n := by
  have hj2 : (j : Int) ≤ 2 ^ (n : Int).toNat - 1 := by
    rw [Int.toNat_natCast]
    rcases (show n = 1 ∨ n = 2 ∨ n = 3 ∨ n = 4 by omega) with rfl | rfl | rfl | rfl
    all_goals (simp at hj ⊢; omega)
  unfold basisL
  rw [if_pos ⟨by omega, by omega, by omega, hj2⟩]
  rw [List.length_set, List.length_replicate, Int.toNat_natCast]
attribute [local irreducible] World.cell?
set_option maxRecDepth 100000 in
set_option maxHeartbeats 1600000 in
theorem sapGs (B C : Nat) (vg v : Value) (L : List Gt) (l : List Dw) (w : World) (hg : gtE.Sl w C vg L) (hv : DSl w B v l) (hm : l.length ≤ 1048576) (hL : L.length ≤ 1048576) :
    Calls Tryz.prog 82 #[vg, v] w fun e w' => (∃ r, e = .returned (.tuple #[r, .bool (agsB L l)]) ∧ DSl w' w.heap.size r (agsV L l)) ∧ Below w.heap.size w w' := by
  cases hst : stB l with
  | true => exact sapGs_yes B C vg v L l w hg hv hst hL
  | false =>
    have h0 : agsO L l = none := by unfold agsO; rw [hst]; rfl
    rw [show agsB L l = false by unfold agsB; rw [h0]; rfl, show agsV L l = [] by unfold agsV; rw [h0]; rfl]
    have H1 := Lib.hid (svalidSt B v l w hv hm)
    rw [hst] at H1
    clear hst h0 hg hv
    go_enter Tryz.func82, Tryz.ntmps82
    go_wp2_with fail
    refine (H1.out).mono ?_
    rintro e w1 ⟨rfl, hb1⟩
    have Hb1 := Lib.hid hb1
    have hs1 := hb1.size
    clear hb1
    go_wp2_with fail
    go_returns
    exact ⟨⟨_, rfl, DSl.nil⟩, by have := Hb1.out; go_grown⟩
set_option maxRecDepth 100000 in
set_option maxHeartbeats 3200000 in
theorem smat (C n : Nat) (vg : Value) (L : List Gt) (w : World) (hg : gtE.Sl w C vg L) (h1 : 1 ≤ n) (h4 : n ≤ 4) (hL : L.length ≤ 1048576) :
    Calls Tryz.prog 50 #[vg, .int .i64 n] w fun e w' => (∃ r, e = .returned (.tuple #[r, .bool (cirB L n)]) ∧ DSM w' w.heap.size w'.heap.size r (cirM L n)) ∧ Below w.heap.size w w' := by
  obtain ⟨i0, hi, hz0, hz1, hz2⟩ := info_parts infoDs
  obtain ⟨N, hN⟩ : ∃ N, N = 2 ^ n := ⟨_, rfl⟩
  have hN16 : 2 ≤ N ∧ N ≤ 16 := by rw [hN]; rcases (show n = 1 ∨ n = 2 ∨ n = 3 ∨ n = 4 by omega) with rfl | rfl | rfl | rfl <;> decide
  have hw : wrap64 (2 ^ n) = (N : Int) := by rw [hN]; rcases (show n = 1 ∨ n = 2 ∨ n = 3 ∨ n = 4 by omega) with rfl | rfl | rfl | rfl <;> decide +kernel
  have Hbs := Lib.hid (fun (j : Nat) W => sbasis n j W)
  have Hbl := Lib.hid (fun (j : Nat) (h : j < N) => (basis_len (n := n) (j := j) h1 h4 (by rw [← hN]; exact h)).trans hN.symm)
  have Hap := Lib.hid (fun (j : Nat) (hj : j < N) D (u : Value) W (h : DSl W D u (basisL n j)) (h' : gtE.Sl W C vg L) => sapGs D C vg u L (basisL n j) W h' h (by rw [Hbl.out j hj]; omega) hL)
  have Hlen := Lib.hid (fun (j : Nat) (hj : j < N) (h : agsB L (basisL n j) = true) => (agsV_len h).trans (Hbl.out j hj))
  have Hst := Lib.hid (fun (j : Nat) (hj : j < N) => cirC_step (L := L) (n := n) (j := j) (by rw [← hN]; exact hj))
  have hcl := (cirC_len L n).trans hN.symm
  obtain ⟨SB, hSB⟩ : ∃ SB, SB = cirB L n := ⟨_, rfl⟩
  obtain ⟨SL, hSL⟩ : ∃ SL, SL = cirM L n := ⟨_, rfl⟩
  rw [← hSB, ← hSL]
  have HSB := Lib.hid (hSB.trans (show cirB L n = (List.range N).all fun (i : Nat) => agsB L (basisL n i) by rw [hN]; rfl))
  have HSL := Lib.hid (show SL = if SB then colsM (cirC L n) else [] by rw [hSB]; exact hSL)
  have Hmem := Lib.hid (show ∀ r ∈ cirC L n, ∃ j, j < N ∧ r = agsV L (basisL n j) from fun r hr => by
    obtain ⟨k, hk, rfl⟩ := List.mem_map.1 hr
    exact ⟨k, by rw [hN]; exact List.mem_range.1 hk, rfl⟩)
  have Hvg := Lib.hid hg
  generalize cirC L n = M at *
  clear hSB hSL hN
  go_enter Tryz.func50, Tryz.ntmps50
  go_wp2_with fail
  go_loopg [6, 7] N (fun m out i wr => ∃ (j : Nat) (vs : List Value), m = N - j ∧ j ≤ N ∧ i = .int .i64 j ∧ Hid (wr.ownsRow w.heap.size 59 1 out j vs) ∧ Hid (RwS wr w.heap.size wr.heap.size vs (M.take j)) ∧ Hid (∀ k, k < j → agsB L (basisL n k) = true) ∧ Hid (Below w.heap.size w wr))
  case atStart => exact ⟨0, [], rfl, Nat.zero_le _, rfl, ownM_new rfl, RwS.nil, Lib.hid (fun k hk => absurd hk (Nat.not_lt_zero _)), Lib.hid (by go_grown)⟩
  case round =>
    obtain ⟨j, vs, rfl, hj, rfl, Hown, Hrows, Hall, Hb⟩ := hrel
    have hs := Hb.out.size
    by_cases hlt : j < N
    · have hjl : (j : Int) < N := by omega
      have Hc := Lib.hid (Hbs.out j wr)
      have Ha := Lib.hid (fun D u W => Hap.out j hlt D u W)
      have Hstp := Lib.hid (Hst.out j hlt)
      have Hln := Lib.hid (Hlen.out j hlt)
      have Hat := Lib.hid (fun (h : agsB L (basisL n j) = true) k (hk : k < j + 1) => by
        rcases Nat.lt_succ_iff_lt_or_eq.1 hk with h' | rfl
        · exact Hall.out k h'
        · exact h)
      have Hno := Lib.hid (fun (h : agsB L (basisL n j) = false) => (show ((List.range N).all fun (i : Nat) => agsB L (basisL n i)) = false from by
        rw [List.all_eq_false]; exact ⟨j, List.mem_range.2 hlt, by rw [h]; decide⟩))
      generalize agsB L (basisL n j) = t at *
      generalize agsV L (basisL n j) = r at *
      go_wp2_with fail
      refine (Hc.out).mono ?_
      rintro e w3 ⟨c, rfl, hdc, hb3⟩
      have Hg3 := Lib.hid (Hvg.out.block fun k _ hk => (hb3.block k (by omega)).trans (Hb.out.block k hk))
      have Hc3 := Lib.hid (Ha.out _ c w3 hdc Hg3.out)
      have Hb3 := Lib.hid (Hb.out.trans (hb3.mono hs))
      have Hown3 := Lib.hid (row_below Hown.out hb3)
      have Hrows3 := Lib.hid ((Hrows.out.block fun k _ _ hk => hb3.block k hk).mono (Nat.le_refl _) hb3.size)
      have hs3 := Hb3.out.size
      clear hb3 hdc Hown Hrows Hb Hc Hg3
      go_wp2_with fail
      refine (Hc3.out).mono ?_
      rintro e w4 ⟨⟨q, rfl, hdq⟩, hb4⟩
      have Hown4 := Lib.hid (row_below Hown3.out hb4)
      have Hrows4 := Lib.hid (Hrows3.out.upto.snoc hdq.upto hs3 hb4.size fun k _ _ hk => hb4.block k hk)
      have Hb4 := Lib.hid (Hb3.out.trans (hb4.mono hs3))
      have hs4 := Hb4.out.size
      obtain ⟨p, pc, rfl, -, -⟩ := hdq
      clear hb4 Hown3 Hrows3 Hb3 Hc3
      cases t with
      | false =>
        obtain rfl : SB = false := HSB.out.trans (Hno.out rfl)
        obtain rfl : SL = [] := HSL.out
        go_wp2_with fail
        go_returns
        exact ⟨⟨_, rfl, DSM.nil⟩, by have := Hb4.out; go_grown⟩
      | true =>
        rw [← Hstp.out] at Hrows4
        go_wp2_with (first
          | (at_builtin; refine wpList_append_own _ rfl _ _ 32 rfl w.heap.size 59 i0 (.slice none 0 0) 1 24 Tryz.underlying32 hi hz0 hz1 hz2 rfl (by decide) _ _ _ rfl (Hown4.out.alloc _) ⟨w4.heap.size, 0, none⟩ 1 1 [.slice p r.length pc] rfl rfl (slice_new _ _ _) (by intro u hu; simp at hu; subst hu; rfl) ?d3 ?d4 ?d5 ?_))
        case d3 => unfold maxLen; omega
        case d4 => omega
        case d5 => first | omega | (simp; omega)
        intro v' w5 hown' hgrow _
        have HB5 := Lib.hid ((Hb4.out.alloc hs4 (.cells #[.slice p r.length pc] 59)).grown hgrow (by simp; omega) (fun q hq => by have := Hown4.out.lt q hq; omega))
        have Hrows5 := Lib.hid (((Hrows4.out.block fun k _ _ hk => Below.heap_alloc _ _ _ hk).grown (Hown4.out.alloc _) hgrow).upto)
        have Hown5 := Lib.hid hown'
        clear hown' hgrow
        go_wp2_with fail
        go_roundg (N - (j + 1))
        case measure => omega
        case rel => exact ⟨j + 1, _, rfl, by omega, by go_num, Hown5.out, Hrows5, Lib.hid (Hat.out trivial), HB5⟩
    · obtain rfl : j = N := by omega
      have hall : ((List.range j).all fun (i : Nat) => agsB L (basisL n i)) = true := by
        rw [List.all_eq_true]; exact fun k hk => Hall.out k (List.mem_range.1 hk)
      obtain rfl : SB = true := HSB.out.trans hall
      obtain rfl : SL = colsM M := HSL.out
      have hown := Hown.out
      have hrows := Hrows.out
      rw [List.take_of_length_le (by omega)] at hrows
      rw [← hcl] at hown
      have hd := DSM.of_own hown hrows (Nat.le_refl _)
      have Hcs := Lib.hid (scolumns _ _ _ _ wr hd (fun r hr => by
        obtain ⟨k, hk, rfl⟩ := Hmem.out r hr
        rw [hcl, Hlen.out k hk (Hall.out k hk)]
        exact Nat.le_refl _) (by omega))
      clear hown hrows hd
      go_wp2_with fail
      refine (Hcs.out).mono ?_
      rintro e w6 ⟨q, rfl, hdq, hb6⟩
      have Hdq := Lib.hid (hdq.mono (D := w.heap.size) (E := w6.heap.size) hs (Nat.le_refl _))
      have Hb6 := Lib.hid (Hb.out.trans (hb6.mono hs))
      clear hb6 hdq
      go_wp2_with fail
      go_returns
      exact ⟨⟨_, rfl, Hdq.out⟩, Hb6.out⟩
end Go.Proofs.YtlmiebeffdcfhaaGreat
namespace Go.Proofs.YtlmiebeffdcfhaaGreat
end Go.Proofs.YtlmiebeffdcfhaaGreat
namespace Go.Proofs.YtlmiebeffdcfhaaGreat
end Go.Proofs.YtlmiebeffdcfhaaGreat
namespace Go.Proofs.YtlmiebeffdcfhaaGreat
open Go.RowKit
theorem zok : Dw.zero.ok := by decide
def Ok (l : List Dw) : Prop := ∀ x ∈ l, x.ok
theorem Ok.set {l : List Dw} (h : Ok l) (j : Nat) {x : Dw} (hx : x.ok) : Ok (l.set j x) := fun y hy => by
  rcases List.mem_or_eq_of_mem_set hy with hy | rfl
  · exact h y hy
  · exact hx
theorem Ok.eb {l : List Dw} (h : Ok l) : Eb l := fun x hx => by
  obtain ⟨_, h0, h1, _⟩ := h x hx
  omega
theorem sendO_ok {x : Dw} : ∀ {L : List (Nat × Dw)} {o o' : List Dw}, sendO x L o = some o' → Ok o → Ok o'
  | [], o, o', h, k => by injection h with h; rw [← h]; exact k
  | p :: L, o, o', h, k => by
    rw [sendO] at h
    split at h
    · rename_i hb
      rw [Bool.and_eq_true] at hb
      exact sendO_ok h (k.set _ (dAddV_ok hb.2))
    · cases h
theorem apO_ok {G : Nat → List (Nat × Dw)} : ∀ {l : List Dw} {i : Nat} {o o' : List Dw}, apO G i l o = some o' → Ok o → Ok o'
  | [], i, o, o', h, k => by injection h with h; rw [← h]; exact k
  | x :: l, i, o, o', h, k => by
    rw [apO] at h
    split at h
    · exact apO_ok h k
    · split at h
      · rename_i o2 ho
        exact apO_ok h (sendO_ok ho k)
      · cases h
theorem agV_ok (g : Gt) (l : List Dw) : Ok (agV g l) := by
  unfold agV
  cases ho : agO g l with
  | none => intro x hx; cases hx
  | some o =>
    unfold agO at ho
    split at ho
    · exact apO_ok ho fun x hx => by rw [(List.mem_replicate.1 hx).2]; exact zok
    · cases ho
theorem agsF_ok : ∀ {L : List Gt} {o o' : List Dw}, agsF L o = some o' → Ok o → Ok o'
  | [], o, o', h, k => by injection h with h; rw [← h]; exact k
  | g :: L, o, o', h, k => by
    rw [agsF] at h
    split at h
    · exact agsF_ok h (agV_ok g o)
    · cases h
theorem agsV_ok (L : List Gt) (l : List Dw) : Ok (agsV L l) := by
  unfold agsV
  cases ho : agsO L l with
  | none => intro x hx; cases hx
  | some o =>
    unfold agsO at ho
    split at ho
    · rename_i hs
      exact agsF_ok ho (stB_iff.1 hs).1
    · cases ho
/-- A circuit's matrix, and whether there is one. -/
def ccB (n : Int) (L : List Gt) : Bool := ciB n L && cirB L n.toNat
def ccM (n : Int) (L : List Gt) : List (List Dw) := if ciB n L then cirM L n.toNat else []
theorem cirM_row {L : List Gt} {n : Nat} : ∀ r ∈ cirM L n, Ok r ∧ r.length = 2 ^ n := by
  unfold cirM
  split
  · intro r hr
    obtain ⟨i, hi, rfl⟩ := List.mem_map.1 hr
    refine ⟨fun x hx => ?_, by rw [col_len, cirC_len]⟩
    obtain ⟨c, hc, rfl⟩ := List.mem_map.1 hx
    obtain ⟨j, hj, rfl⟩ := List.mem_map.1 hc
    rw [List.getD_eq_getElem?_getD]
    cases hk : (agsV L (basisL n j))[i]? with
    | none => exact zok
    | some y => exact agsV_ok _ _ y (List.mem_of_getElem? hk)
  · intro r hr; cases hr
theorem cirM_len {L : List Gt} {n : Nat} : (cirM L n).length ≤ 2 ^ n := by
  unfold cirM
  split
  · rw [colsM_len, cirC_len]; exact Nat.le_refl _
  · exact Nat.zero_le _
theorem ccM_row {n : Int} {L : List Gt} : (ccM n L).length ≤ 16 ∧ ∀ r ∈ ccM n L, Ok r ∧ 1 ≤ r.length ∧ r.length ≤ 16 := by
  unfold ccM
  split
  · rename_i h
    have h4 : 1 ≤ n ∧ n ≤ 4 := by
      unfold ciB at h
      simp only [Bool.and_eq_true, decide_eq_true_eq] at h
      exact h.2.1
    have hp : 2 ^ n.toNat ≤ 16 := by
      rcases (show n.toNat = 1 ∨ n.toNat = 2 ∨ n.toNat = 3 ∨ n.toNat = 4 by omega) with e | e | e | e <;> rw [e] <;> decide
    exact ⟨Nat.le_trans cirM_len hp, fun r hr => ⟨(cirM_row r hr).1, by rw [(cirM_row r hr).2]; exact Nat.one_le_two_pow, by rw [(cirM_row r hr).2]; exact hp⟩⟩
  · exact ⟨Nat.zero_le _, fun r hr => by cases hr⟩
attribute [local irreducible] World.cell?
set_option maxRecDepth 100000 in
set_option maxHeartbeats 3200000 in
theorem scirc (B : Nat) (n : Int) (v : Value) (l : List Gt) (w : World) (hv : gtE.Sl w B v l) (hm : l.length ≤ 1048576) :
    Calls Tryz.prog 18 #[.agg #[.int .i64 n, v]] w fun e w' => (∃ r, e = .returned (.tuple #[r, .bool (ccB n l)]) ∧ DSM w' w.heap.size w'.heap.size r (ccM n l)) ∧ Below w.heap.size w w' := by
  have Hv := Lib.hid (hv.block (w' := w.alloc (.cells #[.int .i64 n, v] 38)) fun k _ hk => Below.heap_alloc _ _ _ hk)
  have Hs := Lib.hid (svalidC B n v l _ Hv.out hm)
  have HC := Lib.hid (heap_alloc_new w (.cells #[.int .i64 n, v] 38))
  have Hb0 := Lib.hid (show Below w.heap.size w (w.alloc (.cells #[.int .i64 n, v] 38)) by go_grown)
  obtain ⟨c0, c1⟩ := blk_cells2 HC.out
  have hCl := lt_of_block HC.out
  obtain ⟨a, cap, rfl, hcap, hr⟩ := hv
  clear hr
  cases hok : ciB n l with
  | false =>
    rw [show ccB n l = false by unfold ccB; rw [hok]; rfl, show ccM n l = [] by unfold ccM; rw [hok]; rfl]
    rw [hok] at Hs
    clear hok
    go_enter Tryz.func18, Tryz.ntmps18
    go_wp2_with fail
    refine (Hs.out).mono ?_
    rintro e w1 ⟨rfl, hb1⟩
    have Hb1 := Lib.hid (Hb0.out.trans (hb1.mono (by omega)))
    have hs1 := hb1.size
    clear hb1
    go_wp2_with fail
    go_returns
    exact ⟨⟨_, rfl, DSM.nil⟩, by have := Hb1.out; go_grown⟩
  | true =>
    have h4 : 1 ≤ n ∧ n ≤ 4 := by
      unfold ciB at hok
      simp only [Bool.and_eq_true, decide_eq_true_eq] at hok
      exact hok.2.1
    rw [show ccB n l = cirB l n.toNat by unfold ccB; rw [hok]; rfl, show ccM n l = cirM l n.toNat by unfold ccM; rw [hok]; rfl]
    rw [hok] at Hs
    clear hok
    obtain ⟨m, rfl⟩ : ∃ m : Nat, n = m := ⟨n.toNat, by omega⟩
    rw [Int.toNat_natCast]
    have Hm := Lib.hid (fun W h => smat B m (.slice a l.length cap) l W h (by omega) (by omega) hm)
    generalize cirB l m = SB at *
    generalize cirM l m = SM at *
    clear h4
    go_enter Tryz.func18, Tryz.ntmps18
    go_wp2_with fail
    refine (Hs.out).mono ?_
    rintro e w1 ⟨rfl, hb1⟩
    have hs1 := hb1.size
    have HC1 := Lib.hid (below_blk hb1 hCl HC.out)
    have Hv1 := Lib.hid (Hv.out.block (w' := w1) fun k _ hk => hb1.block k hk)
    have Hc := Lib.hid (Hm.out _ Hv1.out)
    have Hb1 := Lib.hid (Hb0.out.trans (hb1.mono (by omega)))
    clear hb1 c0 c1
    obtain ⟨c0, c1⟩ := blk_cells2 HC1.out
    have hCl1 := lt_of_block HC1.out
    go_wp2_with fail
    refine (Hc.out).mono ?_
    rintro e w2 ⟨⟨r, rfl, hd⟩, hb2⟩
    have hw1 := Hb1.out.size
    have Hd := Lib.hid (hd.mono (D := w.heap.size) (E := w2.heap.size) hw1 (Nat.le_refl _))
    have Hb2 := Lib.hid (Hb1.out.trans (hb2.mono hw1))
    clear hd hb2
    go_wp2_with fail
    go_returns
    exact ⟨⟨_, rfl, Hd.out⟩, Hb2.out⟩
end Go.Proofs.YtlmiebeffdcfhaaGreat
