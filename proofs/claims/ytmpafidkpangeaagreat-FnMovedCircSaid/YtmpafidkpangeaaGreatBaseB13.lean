/- BaseB13: several of our texts in one: ApM CmA AgN AgM ApKp CpM CiS CiT CpN. -/
import Derived.Test.YtmpafidkpangeaaGreatBaseB07
import Derived.Test.YtmpafidkpangeaaGreatBaseB08
import Derived.Test.YtmpafidkpangeaaGreatBaseB11
import Derived.Test.YtmpafidkpangeaaGreatBaseB24
import Derived.Test.YtmpafidkpangeaaGreatBaseB22
import Derived.Test.YtmpafidkpangeaaGreatBaseB12
import Derived.Test.YtmpafidkpangeaaGreatBaseB15
import Derived.Test.YtmpafidkpangeaaGreatBaseB03
import Derived.Test.YtmpafidkpangeaaGreatBaseB06
import Derived.Laws.StructEq
namespace Go.Proofs.YtmpafidkpangeaaGreat
open Go.RowKit
theorem agV_len2 {g : Gt} {l : List Dw} (h : agB g l = true) : (agV g l).length = l.length := by
  unfold agB at h
  unfold agV
  cases ho : agO g l with
  | none => rw [ho] at h; cases h
  | some o =>
    unfold agO at ho
    split at ho
    · have := apO_len ho
      rw [List.length_replicate] at this
      simpa using this
    · cases ho
theorem agsF_len : ∀ {L : List Gt} {o o' : List Dw}, agsF L o = some o' → o'.length = o.length
  | [], o, o', h => by injection h with h; rw [h]
  | g :: L, o, o', h => by
    rw [agsF] at h
    split at h
    · rename_i hb
      rw [agsF_len h, agV_len2 hb]
    · cases h
theorem agsV_len {L : List Gt} {l : List Dw} (h : agsB L l = true) : (agsV L l).length = l.length := by
  unfold agsB at h
  unfold agsV
  cases ho : agsO L l with
  | none => rw [ho] at h; cases h
  | some o =>
    unfold agsO at ho
    split at ho
    · simpa using agsF_len ho
    · cases ho
/-- The columns of a circuit's map on n qubits, and whether each is found. -/
def cirC (L : List Gt) (n : Nat) : List (List Dw) := (List.range (2 ^ n)).map fun (i : Nat) => agsV L (basisL n i)
def cirB (L : List Gt) (n : Nat) : Bool := (List.range (2 ^ n)).all fun (i : Nat) => agsB L (basisL n i)
def cirM (L : List Gt) (n : Nat) : List (List Dw) := if cirB L n then colsM (cirC L n) else []
theorem cirC_len (L : List Gt) (n : Nat) : (cirC L n).length = 2 ^ n := by rw [cirC, List.length_map, List.length_range]
theorem cirC_step {L : List Gt} {n j : Nat} (hj : j < 2 ^ n) : (cirC L n).take (j + 1) = (cirC L n).take j ++ [agsV L (basisL n j)] := by
  have hc : (cirC L n)[j]? = some (agsV L (basisL n j)) := by unfold cirC; rw [List.getElem?_map, List.getElem?_range hj]; rfl
  rw [List.take_add_one, hc]
  rfl
theorem basis_len {n j : Nat} (h1 : 1 ≤ n) (h4 : n ≤ 4) (hj : j < 2 ^ n) : (basisL n j).length = 2 ^ n := by
  have hj2 : (j : Int) ≤ 2 ^ (n : Int).toNat - 1 := by
    rw [Int.toNat_natCast]
    rcases (show n = 1 ∨ n = 2 ∨ n = 3 ∨ n = 4 by omega) with rfl | rfl | rfl | rfl
    all_goals (simp at hj ⊢; omega)
  unfold basisL
  rw [if_pos ⟨by omega, by omega, by omega, hj2⟩]
  rw [List.length_set, List.length_replicate, Int.toNat_natCast]
attribute [local irreducible] World.cell?
set_option maxRecDepth 100000 in
set_option maxHeartbeats 1600000 in
theorem sapGs (B C : Nat) (vg v : Value) (L : List Gt) (l : List Dw) (w : World) (hg : gtE.Sl w C vg L) (hv : DSl w B v l) (hm : l.length ≤ 1048576) (hL : L.length ≤ 1048576) :
    Calls Tryz.prog 97 #[vg, v] w fun e w' => (∃ r, e = .returned (.tuple #[r, .bool (agsB L l)]) ∧ DSl w' w.heap.size r (agsV L l)) ∧ Below w.heap.size w w' := by
  cases hst : stB l with
  | true => exact sapGs_yes B C vg v L l w hg hv hst hL
  | false =>
    have h0 : agsO L l = none := by unfold agsO; rw [hst]; rfl
    rw [show agsB L l = false by unfold agsB; rw [h0]; rfl, show agsV L l = [] by unfold agsV; rw [h0]; rfl]
    have H1 := Lib.hid (svalidSt B v l w hv hm)
    rw [hst] at H1
    clear hst h0 hg hv
    go_enter Tryz.func97, Tryz.ntmps97
    go_wp2_with fail
    refine (H1.out).mono ?_
    rintro e w1 ⟨rfl, hb1⟩
    have Hb1 := Lib.hid hb1
    have hs1 := hb1.size
    clear hb1
    go_wp2_with fail
    go_returns
    exact ⟨⟨_, rfl, DSl.nil⟩, by have := Hb1.out; go_grown⟩
set_option maxRecDepth 100000 in
set_option maxHeartbeats 3200000 in
theorem smat (C n : Nat) (vg : Value) (L : List Gt) (w : World) (hg : gtE.Sl w C vg L) (h1 : 1 ≤ n) (h4 : n ≤ 4) (hL : L.length ≤ 1048576) :
    Calls Tryz.prog 41 #[vg, .int .i64 n] w fun e w' => (∃ r, e = .returned (.tuple #[r, .bool (cirB L n)]) ∧ DSM w' w.heap.size w'.heap.size r (cirM L n)) ∧ Below w.heap.size w w' := by
  obtain ⟨i0, hi, hz0, hz1, hz2⟩ := info_parts infoDs
  obtain ⟨N, hN⟩ : ∃ N, N = 2 ^ n := ⟨_, rfl⟩
  have hN16 : 2 ≤ N ∧ N ≤ 16 := by rw [hN]; rcases (show n = 1 ∨ n = 2 ∨ n = 3 ∨ n = 4 by omega) with rfl | rfl | rfl | rfl <;> decide
  have hw : wrap64 (2 ^ n) = (N : Int) := by rw [hN]; rcases (show n = 1 ∨ n = 2 ∨ n = 3 ∨ n = 4 by omega) with rfl | rfl | rfl | rfl <;> decide +kernel
  have Hbs := Lib.hid (fun (j : Nat) W => sbasis n j W)
  have Hbl := Lib.hid (fun (j : Nat) (h : j < N) => (basis_len (n := n) (j := j) h1 h4 (by rw [← hN]; exact h)).trans hN.symm)
  have Hap := Lib.hid (fun (j : Nat) (hj : j < N) D (u : Value) W (h : DSl W D u (basisL n j)) (h' : gtE.Sl W C vg L) => sapGs D C vg u L (basisL n j) W h' h (by rw [Hbl.out j hj]; omega) hL)
  have Hlen := Lib.hid (fun (j : Nat) (hj : j < N) (h : agsB L (basisL n j) = true) => (agsV_len h).trans (Hbl.out j hj))
  have Hst := Lib.hid (fun (j : Nat) (hj : j < N) => cirC_step (L := L) (n := n) (j := j) (by rw [← hN]; exact hj))
  have hcl := (cirC_len L n).trans hN.symm
  obtain ⟨SB, hSB⟩ : ∃ SB, SB = cirB L n := ⟨_, rfl⟩
  obtain ⟨SL, hSL⟩ : ∃ SL, SL = cirM L n := ⟨_, rfl⟩
  rw [← hSB, ← hSL]
  have HSB := Lib.hid (hSB.trans (show cirB L n = (List.range N).all fun (i : Nat) => agsB L (basisL n i) by rw [hN]; rfl))
  have HSL := Lib.hid (show SL = if SB then colsM (cirC L n) else [] by rw [hSB]; exact hSL)
  have Hmem := Lib.hid (show ∀ r ∈ cirC L n, ∃ j, j < N ∧ r = agsV L (basisL n j) from fun r hr => by
    obtain ⟨k, hk, rfl⟩ := List.mem_map.1 hr
    exact ⟨k, by rw [hN]; exact List.mem_range.1 hk, rfl⟩)
  have Hvg := Lib.hid hg
  generalize cirC L n = M at *
  clear hSB hSL hN
  go_enter Tryz.func41, Tryz.ntmps41
  go_wp2_with fail
  go_loopg [6, 7] N (fun m out i wr => ∃ (j : Nat) (vs : List Value), m = N - j ∧ j ≤ N ∧ i = .int .i64 j ∧ Hid (wr.ownsRow w.heap.size 36 1 out j vs) ∧ Hid (RwS wr w.heap.size wr.heap.size vs (M.take j)) ∧ Hid (∀ k, k < j → agsB L (basisL n k) = true) ∧ Hid (Below w.heap.size w wr))
  case atStart => exact ⟨0, [], rfl, Nat.zero_le _, rfl, ownM_new rfl, RwS.nil, Lib.hid (fun k hk => absurd hk (Nat.not_lt_zero _)), Lib.hid (by go_grown)⟩
  case round =>
    obtain ⟨j, vs, rfl, hj, rfl, Hown, Hrows, Hall, Hb⟩ := hrel
    have hs := Hb.out.size
    by_cases hlt : j < N
    · have hjl : (j : Int) < N := by omega
      have Hc := Lib.hid (Hbs.out j wr)
      have Ha := Lib.hid (fun D u W => Hap.out j hlt D u W)
      have Hstp := Lib.hid (Hst.out j hlt)
      have Hln := Lib.hid (Hlen.out j hlt)
      have Hat := Lib.hid (fun (h : agsB L (basisL n j) = true) k (hk : k < j + 1) => by
        rcases Nat.lt_succ_iff_lt_or_eq.1 hk with h' | rfl
        · exact Hall.out k h'
        · exact h)
      have Hno := Lib.hid (fun (h : agsB L (basisL n j) = false) => (show ((List.range N).all fun (i : Nat) => agsB L (basisL n i)) = false from by
        rw [List.all_eq_false]; exact ⟨j, List.mem_range.2 hlt, by rw [h]; decide⟩))
      generalize agsB L (basisL n j) = t at *
      generalize agsV L (basisL n j) = r at *
      go_wp2_with fail
      refine (Hc.out).mono ?_
      rintro e w3 ⟨c, rfl, hdc, hb3⟩
      have Hg3 := Lib.hid (Hvg.out.block fun k _ hk => (hb3.block k (by omega)).trans (Hb.out.block k hk))
      have Hc3 := Lib.hid (Ha.out _ c w3 hdc Hg3.out)
      have Hb3 := Lib.hid (Hb.out.trans (hb3.mono hs))
      have Hown3 := Lib.hid (row_below Hown.out hb3)
      have Hrows3 := Lib.hid ((Hrows.out.block fun k _ _ hk => hb3.block k hk).mono (Nat.le_refl _) hb3.size)
      have hs3 := Hb3.out.size
      clear hb3 hdc Hown Hrows Hb Hc Hg3
      go_wp2_with fail
      refine (Hc3.out).mono ?_
      rintro e w4 ⟨⟨q, rfl, hdq⟩, hb4⟩
      have Hown4 := Lib.hid (row_below Hown3.out hb4)
      have Hrows4 := Lib.hid (Hrows3.out.upto.snoc hdq.upto hs3 hb4.size fun k _ _ hk => hb4.block k hk)
      have Hb4 := Lib.hid (Hb3.out.trans (hb4.mono hs3))
      have hs4 := Hb4.out.size
      obtain ⟨p, pc, rfl, -, -⟩ := hdq
      clear hb4 Hown3 Hrows3 Hb3 Hc3
      cases t with
      | false =>
        obtain rfl : SB = false := HSB.out.trans (Hno.out rfl)
        obtain rfl : SL = [] := HSL.out
        go_wp2_with fail
        go_returns
        exact ⟨⟨_, rfl, DSM.nil⟩, by have := Hb4.out; go_grown⟩
      | true =>
        rw [← Hstp.out] at Hrows4
        go_wp2_with (first
          | (at_builtin; refine wpList_append_own _ rfl _ _ 28 rfl w.heap.size 36 i0 (.slice none 0 0) 1 24 Tryz.underlying28 hi hz0 hz1 hz2 rfl (by decide) _ _ _ rfl (Hown4.out.alloc _) ⟨w4.heap.size, 0, none⟩ 1 1 [.slice p r.length pc] rfl rfl (slice_new _ _ _) (by intro u hu; simp at hu; subst hu; rfl) ?d3 ?d4 ?d5 ?_))
        case d3 => unfold maxLen; omega
        case d4 => omega
        case d5 => first | omega | (simp; omega)
        intro v' w5 hown' hgrow _
        have HB5 := Lib.hid ((Hb4.out.alloc hs4 (.cells #[.slice p r.length pc] 36)).grown hgrow (by simp; omega) (fun q hq => by have := Hown4.out.lt q hq; omega))
        have Hrows5 := Lib.hid (((Hrows4.out.block fun k _ _ hk => Below.heap_alloc _ _ _ hk).grown (Hown4.out.alloc _) hgrow).upto)
        have Hown5 := Lib.hid hown'
        clear hown' hgrow
        go_wp2_with fail
        go_roundg (N - (j + 1))
        case measure => omega
        case rel => exact ⟨j + 1, _, rfl, by omega, by go_num, Hown5.out, Hrows5, Lib.hid (Hat.out trivial), HB5⟩
    · obtain rfl : j = N := by omega
      have hall : ((List.range j).all fun (i : Nat) => agsB L (basisL n i)) = true := by
        rw [List.all_eq_true]; exact fun k hk => Hall.out k (List.mem_range.1 hk)
      obtain rfl : SB = true := HSB.out.trans hall
      obtain rfl : SL = colsM M := HSL.out
      have hown := Hown.out
      have hrows := Hrows.out
      rw [List.take_of_length_le (by omega)] at hrows
      rw [← hcl] at hown
      have hd := DSM.of_own hown hrows (Nat.le_refl _)
      have Hcs := Lib.hid (scolumns _ _ _ _ wr hd (fun r hr => by
        obtain ⟨k, hk, rfl⟩ := Hmem.out r hr
        rw [hcl, Hlen.out k hk (Hall.out k hk)]
        exact Nat.le_refl _) (by omega))
      clear hown hrows hd
      go_wp2_with fail
      refine (Hcs.out).mono ?_
      rintro e w6 ⟨q, rfl, hdq, hb6⟩
      have Hdq := Lib.hid (hdq.mono (D := w.heap.size) (E := w6.heap.size) hs (Nat.le_refl _))
      have Hb6 := Lib.hid (Hb.out.trans (hb6.mono hs))
      clear hb6 hdq
      go_wp2_with fail
      go_returns
      exact ⟨⟨_, rfl, Hdq.out⟩, Hb6.out⟩
end Go.Proofs.YtmpafidkpangeaaGreat
namespace Go.Proofs.YtmpafidkpangeaaGreat
open Go.RowKit
def Ok (l : List Dw) : Prop := ∀ x ∈ l, x.ok
theorem Ok.set {l : List Dw} (h : Ok l) (j : Nat) {x : Dw} (hx : x.ok) : Ok (l.set j x) := fun y hy => by
  rcases List.mem_or_eq_of_mem_set hy with hy | rfl
  · exact h y hy
  · exact hx
theorem Ok.eb {l : List Dw} (h : Ok l) : Eb l := fun x hx => by
  obtain ⟨_, h0, h1, _⟩ := h x hx
  omega
/-- A circuit's matrix, and whether there is one. -/
def ccB (n : Int) (L : List Gt) : Bool := ciB n L && cirB L n.toNat
def ccM (n : Int) (L : List Gt) : List (List Dw) := if ciB n L then cirM L n.toNat else []
attribute [local irreducible] World.cell?
set_option maxRecDepth 100000 in
set_option maxHeartbeats 3200000 in
theorem scirc (B : Nat) (n : Int) (v : Value) (l : List Gt) (w : World) (hv : gtE.Sl w B v l) (hm : l.length ≤ 1048576) :
    Calls Tryz.prog 10 #[.agg #[.int .i64 n, v]] w fun e w' => (∃ r, e = .returned (.tuple #[r, .bool (ccB n l)]) ∧ DSM w' w.heap.size w'.heap.size r (ccM n l)) ∧ Below w.heap.size w w' := by
  have Hv := Lib.hid (hv.block (w' := w.alloc (.cells #[.int .i64 n, v] 26)) fun k _ hk => Below.heap_alloc _ _ _ hk)
  have Hs := Lib.hid (svalidC B n v l _ Hv.out hm)
  have HC := Lib.hid (heap_alloc_new w (.cells #[.int .i64 n, v] 26))
  have Hb0 := Lib.hid (show Below w.heap.size w (w.alloc (.cells #[.int .i64 n, v] 26)) by go_grown)
  obtain ⟨c0, c1⟩ := blk_cells2 HC.out
  have hCl := lt_of_block HC.out
  obtain ⟨a, cap, rfl, hcap, hr⟩ := hv
  clear hr
  cases hok : ciB n l with
  | false =>
    rw [show ccB n l = false by unfold ccB; rw [hok]; rfl, show ccM n l = [] by unfold ccM; rw [hok]; rfl]
    rw [hok] at Hs
    clear hok
    go_enter Tryz.func10, Tryz.ntmps10
    go_wp2_with fail
    refine (Hs.out).mono ?_
    rintro e w1 ⟨rfl, hb1⟩
    have Hb1 := Lib.hid (Hb0.out.trans (hb1.mono (by omega)))
    have hs1 := hb1.size
    clear hb1
    go_wp2_with fail
    go_returns
    exact ⟨⟨_, rfl, DSM.nil⟩, by have := Hb1.out; go_grown⟩
  | true =>
    have h4 : 1 ≤ n ∧ n ≤ 4 := by
      unfold ciB at hok
      simp only [Bool.and_eq_true, decide_eq_true_eq] at hok
      exact hok.2.1
    rw [show ccB n l = cirB l n.toNat by unfold ccB; rw [hok]; rfl, show ccM n l = cirM l n.toNat by unfold ccM; rw [hok]; rfl]
    rw [hok] at Hs
    clear hok
    obtain ⟨m, rfl⟩ : ∃ m : Nat, n = m := ⟨n.toNat, by omega⟩
    rw [Int.toNat_natCast]
    have Hm := Lib.hid (fun W h => smat B m (.slice a l.length cap) l W h (by omega) (by omega) hm)
    generalize cirB l m = SB at *
    generalize cirM l m = SM at *
    clear h4
    go_enter Tryz.func10, Tryz.ntmps10
    go_wp2_with fail
    refine (Hs.out).mono ?_
    rintro e w1 ⟨rfl, hb1⟩
    have hs1 := hb1.size
    have HC1 := Lib.hid (below_blk hb1 hCl HC.out)
    have Hv1 := Lib.hid (Hv.out.block (w' := w1) fun k _ hk => hb1.block k hk)
    have Hc := Lib.hid (Hm.out _ Hv1.out)
    have Hb1 := Lib.hid (Hb0.out.trans (hb1.mono (by omega)))
    clear hb1 c0 c1
    obtain ⟨c0, c1⟩ := blk_cells2 HC1.out
    have hCl1 := lt_of_block HC1.out
    go_wp2_with fail
    refine (Hc.out).mono ?_
    rintro e w2 ⟨⟨r, rfl, hd⟩, hb2⟩
    have hw1 := Hb1.out.size
    have Hd := Lib.hid (hd.mono (D := w.heap.size) (E := w2.heap.size) hw1 (Nat.le_refl _))
    have Hb2 := Lib.hid (Hb1.out.trans (hb2.mono hw1))
    clear hd hb2
    go_wp2_with fail
    go_returns
    exact ⟨⟨_, rfl, Hd.out⟩, Hb2.out⟩
end Go.Proofs.YtmpafidkpangeaaGreat
namespace Go.Proofs.YtmpafidkpangeaaGreat
end Go.Proofs.YtmpafidkpangeaaGreat
namespace Go.Proofs.YtmpafidkpangeaaGreat
/-- What a valid gate's qubits are. -/
theorem gtB_kinds {g : Gt} {n : Int} (h : gtB g n = true) : (1 ≤ g.k ∧ g.k ≤ 8 ∧ g.b = 0 ∧ g.c = 0) ∨ (9 ≤ g.k ∧ g.k ≤ 11 ∧ g.b ≠ g.a ∧ g.c = 0) ∨ (g.k = 12 ∧ g.b ≠ g.a ∧ g.c ≠ g.a ∧ g.c ≠ g.b) := by
  have hp := (gtB_parts h).2.1
  unfold gtB at h
  simp only [Bool.and_eq_true, decide_eq_true_eq] at h
  obtain ⟨hall, -, -⟩ := h
  rw [List.all_eq_true] at hall
  have h1 := hall 1 (List.mem_range.2 (by decide))
  have h2 := hall 2 (List.mem_range.2 (by decide))
  unfold gtOk gqs at h1 h2
  rcases (show (1 ≤ g.k ∧ g.k ≤ 8) ∨ (9 ≤ g.k ∧ g.k ≤ 11) ∨ g.k = 12 by omega) with k | k | k
  · have ha : ar g.k = 1 := if_pos k
    rw [ha, if_pos (by decide)] at h1 h2
    exact .inl ⟨k.1, k.2, of_decide_eq_true h1, of_decide_eq_true h2⟩
  · have ha : ar g.k = 2 := by rw [ar, if_neg (by omega), if_pos k]
    rw [ha, if_neg (by decide)] at h1
    rw [ha, if_pos (by decide)] at h2
    rw [Bool.and_eq_true] at h1
    exact .inr (.inl ⟨k.1, k.2, by simpa using h1.2, of_decide_eq_true h2⟩)
  · have ha : ar g.k = 3 := by rw [k]; rfl
    rw [ha, if_neg (by decide)] at h1 h2
    rw [Bool.and_eq_true] at h1 h2
    have h3 : ¬ (g.c = g.a ∨ g.c = g.b) := by simpa using h2.2
    exact .inr (.inr ⟨k, by simpa using h1.2, fun e => h3 (.inl e), fun e => h3 (.inr e)⟩)
/-- One place and a phase, or the two places of a GateH. -/
theorem goesL_form (k : Int) (A B C i : Nat) : (∃ (a : Nat) (m : Int), goesL k A B C i = [(a, dPh m)]) ∨ goesL k A B C i = [(lowN i A, isV 1), (flipN (lowN i A) A, if bitN i A then dNegV (isV 1) else isV 1)] := by
  have hp : ∀ (a : Nat) (t : Bool) (m : Int), ∃ (b : Nat) (n : Int), [(a, if t = true then dPh m else dPh 0)] = [(b, dPh n)] := fun a t m => by
    cases t
    · exact ⟨a, 0, rfl⟩
    · exact ⟨a, m, rfl⟩
  unfold goesL
  by_cases h1 : k = 1
  · rw [if_pos h1]; exact .inl (⟨_, 0, rfl⟩)
  rw [if_neg h1]
  by_cases h2 : k = 2
  · rw [if_pos h2]; exact .inl (⟨_, _, rfl⟩)
  rw [if_neg h2]
  by_cases h3 : k = 3
  · rw [if_pos h3]; exact .inl (hp _ _ _)
  rw [if_neg h3]
  by_cases h5 : k = 5
  · rw [if_pos h5]; exact .inl (hp _ _ _)
  rw [if_neg h5]
  by_cases h6 : k = 6
  · rw [if_pos h6]; exact .inl (hp _ _ _)
  rw [if_neg h6]
  by_cases h7 : k = 7
  · rw [if_pos h7]; exact .inl (hp _ _ _)
  rw [if_neg h7]
  by_cases h8 : k = 8
  · rw [if_pos h8]; exact .inl (hp _ _ _)
  rw [if_neg h8]
  by_cases h9 : k = 9
  · rw [if_pos h9]; exact .inl (⟨_, 0, rfl⟩)
  rw [if_neg h9]
  by_cases h10 : k = 10
  · rw [if_pos h10]; exact .inl (hp _ _ _)
  rw [if_neg h10]
  by_cases h12 : k = 12
  · rw [if_pos h12]; exact .inl (⟨_, 0, rfl⟩)
  rw [if_neg h12]
  by_cases h11 : k = 11
  · rw [if_pos h11]; exact .inl (⟨_, 0, rfl⟩)
  rw [if_neg h11]
  exact .inr rfl
theorem goesL_e (k : Int) (A B C i : Nat) : ∀ p ∈ goesL k A B C i, p.2.ok ∧ p.2.e.toNat ≤ 1 := by
  have hI : (isV 1).ok ∧ (isV 1).e.toNat ≤ 1 := by decide
  have hN : (dNegV (isV 1)).ok ∧ (dNegV (isV 1)).e.toNat ≤ 1 := by decide
  intro p hp
  rcases goesL_form k A B C i with ⟨a, m, e⟩ | e
  · rw [e, List.mem_singleton] at hp
    subst hp
    exact ⟨dPh_ok m, (by decide : (0 : Int).toNat ≤ 1)⟩
  · rw [e] at hp
    rcases List.mem_cons.1 hp with rfl | hp
    · exact hI
    · rw [List.mem_singleton] at hp
      subst hp
      cases bitN i A
      · exact hI
      · exact hN
theorem goesG_e {g : Gt} {N : Nat} (hg : gtB g (qc N) = true) : ∀ i, i < N → ∀ p ∈ goesG g i, p.1 < N ∧ p.2.e.toNat ≤ 1 := fun _ hi p hp => ⟨goesG_in hg hi p hp, (goesL_e _ _ _ _ _ p hp).2⟩
theorem agO_some {g : Gt} {v w : List Dw} (h : agO g v = some w) : stB v = true ∧ gtB g (qc v.length) = true ∧ apO (goesG g) 0 v (List.replicate v.length .zero) = some w := by
  unfold agO at h
  split at h
  · rename_i hb
    rw [Bool.and_eq_true] at hb
    exact ⟨hb.1, hb.2, h⟩
  · cases h
theorem agO_val {g : Gt} {v w : List Dw} (h : agO g v = some w) : w.length = v.length ∧ (∀ y ∈ w, y.ok) ∧ stB w = true := by
  obtain ⟨h1, h2, h3⟩ := agO_some h
  obtain ⟨l, o, -⟩ := ap_zero (goesG_e h2) h3
  exact ⟨l, o, stB_iff.2 ⟨o, by rw [l]; exact (stB_iff.1 h1).2⟩⟩
theorem agV_of {g : Gt} {v o : List Dw} (h : agO g v = some o) : agV g v = o := by unfold agV; rw [h]; rfl
theorem vl_one : vl oneD = rootN 60 ⟨1, 0, 0, 0⟩ := rfl
theorem one_mul' (x : Zw) : Zw.mul ⟨1, 0, 0, 0⟩ x = x := by
  apply Zw.ext4 <;> simp [Zw.mul]
theorem agsF_st : ∀ {L : List Gt} {v w : List Dw}, agsF L v = some w → stB v = true → stB w = true
  | [], v, w, h, hs => by
    rw [agsF] at h
    cases h
    exact hs
  | g :: L, v, w, h, hs => by
    rw [agsF] at h
    split at h
    · rename_i hb
      cases ho : agO g v with
      | none => unfold agB at hb; rw [ho] at hb; cases hb
      | some o =>
        rw [agV_of ho] at h
        exact agsF_st h (agO_val ho).2.2
    · cases h
theorem agV_oks (g : Gt) (v : List Dw) : ∀ y ∈ agV g v, y.ok := by
  unfold agV
  cases h : agO g v with
  | none => intro y hy; cases hy
  | some o => exact (agO_val h).2.1
theorem agsV_ok' (L : List Gt) (v : List Dw) : ∀ y ∈ agsV L v, y.ok := by
  unfold agsV
  cases h : agsO L v with
  | none => intro y hy; cases hy
  | some o =>
    unfold agsO at h
    split at h
    · rename_i hs
      exact (stB_iff.1 (agsF_st h hs)).1
    · cases h
theorem agB_some {g : Gt} {l : List Dw} (h : agB g l = true) : ∃ o, agO g l = some o := Option.isSome_iff_exists.1 h
/-- Lists of gates applied. -/
theorem agsB_some {L : List Gt} {l : List Dw} (h : agsB L l = true) : ∃ o, agsO L l = some o := Option.isSome_iff_exists.1 h
end Go.Proofs.YtmpafidkpangeaaGreat
namespace Go.Proofs.YtmpafidkpangeaaGreat
open Go.RowKit
theorem set_same {o : List Dw} {k : Nat} (hk : k < o.length) : o.set k (o.getD k .zero) = o := by
  rw [List.getD_eq_getElem?_getD, List.getElem?_eq_getElem hk]
  exact List.set_getElem_self hk
theorem send_zero : ∀ {L : List (Nat × Dw)} {o : List Dw}, (∀ p ∈ L, p.1 < o.length ∧ p.2.ok) → (∀ y ∈ o, y.ok) → sendO .zero L o = some o
  | [], _, _, _ => rfl
  | p :: r, o, h, ho => by
    have hp := h p (List.mem_cons_self ..)
    have hm := dzero_mul hp.2
    have ha := dadd_zeroK (getD_ok ho p.1)
    rw [sendO, hm.1, hm.2, ha.1, ha.2, set_same hp.1]
    exact send_zero (fun q hq => h q (List.mem_cons_of_mem _ hq)) ho
theorem ap_step2 {G : Nat → List (Nat × Dw)} {l o : List Dw} {i : Nat} {x : Dw} (hx : l[i]? = some x) (hG : ∀ p ∈ G i, p.1 < o.length ∧ p.2.ok) (ho : ∀ y ∈ o, y.ok) :
    apO G i (l.drop i) o = match sendO x (G i) o with
      | some o' => apO G (i + 1) (l.drop (i + 1)) o'
      | none => none := by
  rw [ap_step hx]
  split
  · rename_i h
    rw [h, send_zero hG ho]
  · rfl
theorem goesG_ok (g : Gt) (i : Nat) : ∀ p ∈ goesG g i, p.2.ok := fun p hp => (goesL_e _ _ _ _ _ p hp).1
end Go.Proofs.YtmpafidkpangeaaGreat
namespace Go.Proofs.YtmpafidkpangeaaGreat
def oneZ : Zw := ⟨1, 0, 0, 0⟩
theorem mul_oneZ (x : Zw) : x.mul oneZ = x := mul_one' x
theorem oneZ_mul (x : Zw) : oneZ.mul x = x := one_mul' x
/-- The coefficient from i to j of gates one behind the other, over the root's power of their number. -/
def cl (N : Nat) : List Gt → Nat → Nat → Zw
  | [], i, j => if i = j then oneZ else .zero
  | g :: L, i, j => sumZ N fun m => (cf (goesG g i) m).mul (cl N L m j)
/-- Gates applied to a state: the values. -/
theorem ags_val : ∀ {L : List Gt} {v w : List Dw}, agsF L v = some w → stB v = true → w.length = v.length ∧ stB w = true ∧ ∀ j, j < v.length → rootN L.length (vl (w.getD j .zero)) = sumZ v.length fun i => (vl (v.getD i .zero)).mul (cl v.length L i j)
  | [], v, w, h, hs => by
    rw [agsF] at h
    cases h
    refine ⟨rfl, hs, fun j hj => ?_⟩
    rw [sumZ_one (fun i => (vl (v.getD i .zero)).mul (cl v.length [] i j)) hj fun i _ hi => by rw [cl, if_neg hi, mul_zero'], cl, if_pos rfl, mul_oneZ]
    rfl
  | g :: L, v, w, h, hs => by
    rw [agsF] at h
    split at h
    · rename_i hb
      obtain ⟨u, hu⟩ := agB_some hb
      rw [agV_of hu] at h
      obtain ⟨lu, -, su⟩ := agO_val hu
      obtain ⟨h1, h2, h3⟩ := ags_val h su
      obtain ⟨a1, a2, a3⟩ := agO_some hu
      obtain ⟨-, -, e⟩ := ap_zero (goesG_e a2) a3
      refine ⟨h1.trans lu, h2, fun j hj => ?_⟩
      rw [List.length_cons, rootN_succ, h3 j (by omega), root_sumZ, lu]
      have s1 : ∀ m, m < v.length → ((vl (u.getD m .zero)).mul (cl v.length L m j)).root = sumZ v.length fun i => (vl (v.getD i .zero)).mul ((cf (goesG g i) m).mul (cl v.length L m j)) := fun m _ => by
        rw [root_mul, e, sumZ_mul]
        exact sumZ_congr fun i _ => mul_assoc' _ _ _
      rw [sumZ_congr s1, sumZ_swap]
      refine sumZ_congr fun i _ => ?_
      rw [cl, mul_sumZ]
    · cases h
/-- The matrix M represents, over the root's power s, the coefficients C (from the column to the row). -/
def Rep (M : List (List Dw)) (N s : Nat) (C : Nat → Nat → Zw) : Prop :=
  M.length = N ∧ (∀ r ∈ M, r.length = N ∧ ∀ x ∈ r, x.ok) ∧ ∀ k, k < N → ∀ i, i < N → rootN s (vl ((M.getD k []).getD i .zero)) = rootN 60 (C i k)
theorem Rep.row {M : List (List Dw)} {N s : Nat} {C : Nat → Nat → Zw} (h : Rep M N s C) {k : Nat} (hk : k < N) : ∃ r, M[k]? = some r ∧ M.getD k [] = r ∧ r.length = N ∧ ∀ x ∈ r, x.ok := by
  have hl : k < M.length := by rw [h.1]; exact hk
  refine ⟨M[k], List.getElem?_eq_getElem hl, ?_, h.2.1 _ (List.getElem_mem hl)⟩
  rw [List.getD_eq_getElem?_getD, List.getElem?_eq_getElem hl]
  rfl
theorem Rep.eq {M P : List (List Dw)} {N s : Nat} {C D : Nat → Nat → Zw} (h : Rep M N s C) (k : Rep P N s D) (e : ∀ i, i < N → ∀ j, j < N → C i j = D i j) : M = P := by
  apply List.ext_getElem (h.1.trans k.1.symm)
  intro a ha hb
  have haN : a < N := by rw [← h.1]; exact ha
  obtain ⟨r, r1, r2, r3, r4⟩ := h.row haN
  obtain ⟨q, q1, q2, q3, q4⟩ := k.row haN
  rw [List.getElem?_eq_getElem ha] at r1
  rw [List.getElem?_eq_getElem hb] at q1
  injection r1 with r1
  injection q1 with q1
  rw [r1, q1]
  refine getD_eq (r3.trans q3.symm) fun i hi => vl_inj (getD_ok r4 i) (getD_ok q4 i) (rootN_inj (k := s) ?_)
  have hiN : i < N := by omega
  have h1 := h.2.2 a haN i hiN
  have k1 := k.2.2 a haN i hiN
  rw [r2] at h1
  rw [q2] at k1
  rw [h1, k1, e i hiN a haN]
/-- A row with a state. -/
theorem row_val {r v : List Dw} {t : Dw} (hl : r.length = v.length) (h : mrow .zero (r.zip v) = some t) : t.ok ∧ rootN 60 (vl t) = sumZ v.length fun i => (vl (r.getD i .zero)).mul (vl (v.getD i .zero)) := by
  obtain ⟨m1, m2⟩ := mrow_val h zero_ok
  refine ⟨m1, ?_⟩
  rw [m2, vl_zero, rootN_z, zero_add', List.length_zip, hl, Nat.min_self]
  refine sumZ_congr fun i hi => ?_
  have hz : (r.zip v).getD i (.zero, .zero) = (r.getD i .zero, v.getD i .zero) := by
    have a1 : i < r.length := by omega
    rw [List.getD_eq_getElem?_getD, List.getD_eq_getElem?_getD, List.getD_eq_getElem?_getD, List.getElem?_eq_getElem a1, List.getElem?_eq_getElem hi, List.getElem?_eq_getElem (by rw [List.length_zip]; omega), List.getElem_zip]
    rfl
  rw [hz]
/-- The columns of a matrix, each found, give it again. -/
theorem col_getD (L : List (List Dw)) (k i : Nat) (hi : i < L.length) : (col L k).getD i .zero = (L.getD i []).getD k .zero := by
  rw [col, List.getD_eq_getElem?_getD, List.getElem?_map, List.getD_eq_getElem?_getD (l := L), List.getElem?_eq_getElem hi]
  rfl
theorem colsM_getD (L : List (List Dw)) (k : Nat) (hk : k < L.length) : (colsM L).getD k [] = col L k := by
  rw [colsM, List.getD_eq_getElem?_getD, List.getElem?_map, List.getElem?_range hk]
  rfl
/-- The matrix of gates. -/
theorem cir_rep {L : List Gt} {n : Nat} (h1 : 1 ≤ n) (h4 : n ≤ 4) (hb : cirB L n = true) : Rep (cirM L n) (2 ^ n) L.length (cl (2 ^ n) L) := by
  have hq : qc (2 ^ n) = n := by rcases (show n = 1 ∨ n = 2 ∨ n = 3 ∨ n = 4 by omega) with rfl | rfl | rfl | rfl <;> decide
  have hq0 : 0 < qc (2 ^ n) := by rw [hq]; omega
  have hM : cirM L n = colsM (cirC L n) := if_pos hb
  have hC := cirC_len L n
  have hcol : ∀ i : Nat, i < 2 ^ n → (cirC L n).getD i [] = agsV L (basisL n i) := fun i hi => by
    rw [cirC, List.getD_eq_getElem?_getD, List.getElem?_map, List.getElem?_range hi]; rfl
  have hag : ∀ i : Nat, i < 2 ^ n → ∃ w, agsF L (basisL n i) = some w ∧ agsV L (basisL n i) = w ∧ stB (basisL n i) = true ∧ (basisL n i).length = 2 ^ n := fun i hi => by
    have h := List.all_eq_true.1 hb i (List.mem_range.2 hi)
    obtain ⟨w, hw⟩ := agsB_some h
    obtain ⟨s1, s2⟩ := basis_st hq0 hi
    rw [hq] at s1 s2
    refine ⟨w, ?_, by unfold agsV; rw [hw]; rfl, s1, s2⟩
    unfold agsO at hw
    rwa [if_pos s1] at hw
  rw [hM]
  refine ⟨by rw [colsM_len, hC], fun r hr => ?_, fun k hk i hi => ?_⟩
  · obtain ⟨k, hk, rfl⟩ := List.mem_map.1 hr
    refine ⟨by rw [col_len, hC], fun x hx => ?_⟩
    obtain ⟨q, hq', rfl⟩ := List.mem_map.1 hx
    obtain ⟨i, hi, rfl⟩ := List.mem_map.1 hq'
    exact getD_ok (agsV_ok' L _) k
  · rw [colsM_getD _ _ (by rw [hC]; exact hk), col_getD _ _ _ (by rw [hC]; exact hi), hcol i hi]
    obtain ⟨w, hw, hv, s1, s2⟩ := hag i hi
    obtain ⟨-, -, e⟩ := ags_val hw s1
    rw [s2] at e
    rw [hv, e k hk]
    have hbe := basis_eq hq0 hi
    rw [hq] at hbe
    rw [sumZ_one (fun a => (vl ((basisL n i).getD a .zero)).mul (cl (2 ^ n) L a k)) hi fun a _ ha => by
      rw [hbe, getD_set _ _ _ _ (by rw [List.length_replicate]; exact hi), if_neg (fun x => ha x.symm), rep_getD, vl_zero, zero_mul']]
    rw [hbe, getD_set _ _ _ _ (by rw [List.length_replicate]; exact hi), if_pos rfl, vl_one, ← rootN_mul, one_mul']
/-- A product of matrices. -/
theorem mul_rep {A B : List (List Dw)} {N s t : Nat} {C D : Nat → Nat → Zw} (ha : Rep A N s C) (hb : Rep B N t D) (h : mulMB A B = true) : Rep (mulM A B) N (s + t) (fun i k => sumZ N fun m => (D i m).mul (C m k)) := by
  have hM : mulM A B = colsM (mulML A B) := if_pos h
  have hBl := hb.1
  have hLl : (mulML A B).length = N := by rw [mulML, List.length_map, List.length_range, hBl]
  have hcol : ∀ j, j < N → (mulML A B).getD j [] = appL A (col B j) ∧ appB A (col B j) = true := fun j hj => by
    unfold mulMB at h
    simp only [Bool.and_eq_true] at h
    refine ⟨?_, List.all_eq_true.1 h.2 j (List.mem_range.2 (by omega))⟩
    rw [mulML, List.getD_eq_getElem?_getD, List.getElem?_map, List.getElem?_range (by omega)]
    rfl
  have hent : ∀ k, k < N → ∀ i, i < N → ∃ t', (appL A (col B i)).getD k .zero = t' ∧ t'.ok ∧ rootN 60 (vl t') = sumZ N fun m => (vl ((A.getD k []).getD m .zero)).mul (vl ((B.getD m []).getD i .zero)) := fun k hk i hi => by
    obtain ⟨r, r1, r2, r3, r4⟩ := ha.row hk
    have hap := (hcol i hi).2
    have hrow : rowB r (col B i) = true := by
      have h' := hap
      unfold appB at h'
      rw [Bool.and_eq_true, List.all_eq_true] at h'
      exact h'.2 r (List.mem_of_getElem? r1)
    obtain ⟨t', ht⟩ := Option.isSome_iff_exists.1 (show (rowO r (col B i)).isSome = true from hrow)
    have hcl : (col B i).length = N := by rw [col_len, hBl]
    obtain ⟨m1, m2⟩ := row_val (r3.trans hcl.symm) ht
    refine ⟨t', ?_, m1, ?_⟩
    · rw [appL, if_pos hap, List.getD_eq_getElem?_getD, List.getElem?_map, r1]
      show rowV r (col B i) = t'
      unfold rowV
      rw [ht]; rfl
    · rw [m2, hcl, r2]
      exact sumZ_congr fun m hm => by rw [col_getD _ _ _ (by omega)]
  rw [hM]
  refine ⟨by rw [colsM_len, hLl], fun r hr => ?_, fun k hk i hi => ?_⟩
  · obtain ⟨k, hk, rfl⟩ := List.mem_map.1 hr
    have hk := List.mem_range.1 hk
    refine ⟨by rw [col_len, hLl], fun x hx => ?_⟩
    obtain ⟨i, hi⟩ := List.getElem?_of_mem hx
    have hiN : i < N := by
      rcases Nat.lt_or_ge i (col (mulML A B) k).length with h' | h'
      · rwa [col_len, hLl] at h'
      · rw [List.getElem?_eq_none h'] at hi; cases hi
    have hx' : x = (col (mulML A B) k).getD i .zero := by rw [List.getD_eq_getElem?_getD, hi]; rfl
    obtain ⟨t', e1, e2, -⟩ := hent k (by omega) i hiN
    rw [hx', col_getD _ _ _ (by omega), (hcol i hiN).1, e1]
    exact e2
  · rw [colsM_getD _ _ (by omega), col_getD _ _ _ (by omega), (hcol i hi).1]
    obtain ⟨t', e1, -, e3⟩ := hent k hk i hi
    rw [e1]
    apply rootN_inj (k := 60)
    rw [rootN_comm, e3, rootN_sumZ, rootN_sumZ, rootN_sumZ]
    refine sumZ_congr fun m hm => ?_
    rw [rootN_mul2, ha.2.2 k hk m hm, hb.2.2 m hm i hi, ← rootN_mul2, mul_comm' (D i m), ← rootN_add]
end Go.Proofs.YtmpafidkpangeaaGreat
namespace Go.Proofs.YtmpafidkpangeaaGreat
open Go.RowKit
def eqGB (x y : Gt) : Bool := x.k == y.k && (x.a == y.a && (x.b == y.b && x.c == y.c))
theorem eqGB_iff {x y : Gt} : eqGB x y = true ↔ x = y := by
  simp only [eqGB, Bool.and_eq_true, beq_iff_eq]
  exact ⟨fun ⟨h0, h1, h2, h3⟩ => by cases x; cases y; simp_all, fun h => by subst h; exact ⟨rfl, rfl, rfl, rfl⟩⟩
theorem eqGB_no {x y : Gt} (h : x ≠ y) : eqGB x y = false := by
  rw [Bool.eq_false_iff]; exact fun k => h (eqGB_iff.1 k)
instance : DecidableEq Gt := fun x y => if h : eqGB x y = true then .isTrue (eqGB_iff.1 h) else .isFalse fun k => h (eqGB_iff.2 k)
theorem ite4 (p q r s : Prop) [Decidable p] [Decidable q] [Decidable r] [Decidable s] (w : World) :
    (if p then if q then if r then if s then Result.ok (Value.bool true) w else Result.ok (Value.bool false) w else Result.ok (Value.bool false) w else Result.ok (Value.bool false) w else Result.ok (Value.bool false) w) =
    Result.ok (Value.bool (decide p && (decide q && (decide r && decide s)))) w := by
  by_cases p <;> by_cases q <;> by_cases r <;> by_cases s <;> simp [*]
set_option maxRecDepth 100000 in
set_option maxHeartbeats 1600000 in
theorem eqGv (x y : Gt) (w : World) : (binOp .eql 35 (.agg #[.int .i64 x.k, .int .i64 x.a, .int .i64 x.b, .int .i64 x.c]) (.agg #[.int .i64 y.k, .int .i64 y.a, .int .i64 y.b, .int .i64 y.c])).run Tryz.prog w = .ok (.bool (eqGB x y)) w := by
  rw [run_eql_struct, run_equalIn_struct _ 9999 _ _ _ (by kernel_rfl) (by kernel_rfl)]
  simp [go_sem]
  rw [ite4]
  rfl
set_option maxRecDepth 100000 in
set_option maxHeartbeats 1600000 in
theorem neGv (x y : Gt) (w : World) : (binOp .neq 35 (.agg #[.int .i64 x.k, .int .i64 x.a, .int .i64 x.b, .int .i64 x.c]) (.agg #[.int .i64 y.k, .int .i64 y.a, .int .i64 y.b, .int .i64 y.c])).run Tryz.prog w = .ok (.bool (!eqGB x y)) w := by
  rw [run_neq_struct]
  have h := eqGv x y w
  rw [run_eql_struct] at h
  generalize (Op.equalIn 10000 35 (.agg #[.int .i64 x.k, .int .i64 x.a, .int .i64 x.b, .int .i64 x.c]) (.agg #[.int .i64 y.k, .int .i64 y.a, .int .i64 y.b, .int .i64 y.c])).run Tryz.prog w = r at *
  cases r with
  | ok b w1 => simp only [Result.andThen_ok, Result.ok.injEq, Value.bool.injEq] at h ⊢; exact ⟨by rw [h.1], h.2⟩
  | halt a w1 => simp [Result.andThen] at h
theorem eqG_take {a b : List Gt} {j : Nat} {x y : Gt} (hx : a[j]? = some x) (hy : b[j]? = some y) (h : a.take j = b.take j) (hxy : x = y) : a.take (j + 1) = b.take (j + 1) := by
  rw [List.take_add_one, List.take_add_one, h, hx, hy, hxy]
attribute [local irreducible] World.cell?
set_option maxRecDepth 100000 in
set_option maxHeartbeats 1600000 in
theorem sgates (B C : Nat) (v u : Value) (a b : List Gt) (w : World) (hv : gtE.Sl w B v a) (hu : gtE.Sl w C u b) (hm : a.length ≤ 1048576) (_ : b.length ≤ 1048576) :
    Calls Tryz.prog 77 #[v, u] w fun e w' => e = .returned (.bool (decide (a = b))) ∧ Below w.heap.size w w' := by
  obtain ⟨p, cap, rfl, hcap, hr⟩ := hv
  obtain ⟨p', cap', rfl, hcap', hr'⟩ := hu
  have Hr := Lib.hid hr
  have Hr' := Lib.hid hr'
  clear hr hr'
  by_cases hl : a.length = b.length
  · obtain ⟨T, hT⟩ : ∃ T, T = decide (a = b) := ⟨_, rfl⟩
    rw [← hT]
    have HT := Lib.hid hT
    clear hT
    rw [← hl] at Hr' hcap' ⊢
    have Hl := Lib.hid hl
    clear hl
    have hd2 : ((a.length : Int) != a.length) = false := by simp
    go_enter Tryz.func77, Tryz.ntmps77
    go_wp2_with fail
    go_loopg [5] a.length (fun k i wr => ∃ j : Nat, k = a.length - j ∧ j ≤ a.length ∧ i = .int .i64 j ∧ Hid (a.take j = b.take j) ∧ Hid (Below w.heap.size w wr))
    case atStart => exact ⟨0, rfl, Nat.zero_le _, rfl, Lib.hid rfl, Below.refl _ _⟩
    case round =>
      obtain ⟨j, rfl, hj, rfl, Heq, Hb⟩ := hrel
      by_cases hlt : j < a.length
      · obtain ⟨g, rfl, _, hrow⟩ := Hr.out (by omega)
        obtain ⟨g', rfl, _, hrow'⟩ := Hr'.out (by omega)
        obtain ⟨x, hx⟩ : ∃ x, a[j]? = some x := ⟨a[j], List.getElem?_eq_getElem hlt⟩
        obtain ⟨y, hy⟩ : ∃ y, b[j]? = some y := ⟨b[j]'(by have := Hl.out; omega), List.getElem?_eq_getElem _⟩
        have r1 := hrow.below Hb.out hrow.lt
        have r2 := hrow'.below Hb.out hrow'.lt
        obtain ⟨c0, c1, c2, c3⟩ := GRow.cells r1 hx
        obtain ⟨d0, d1, d2, d3⟩ := GRow.cells r2 hy
        have hne := neGv x y
        have Hx := Lib.hid hx
        have Hy := Lib.hid hy
        clear hx hy hrow hrow' r1 r2
        go_upto_region 6 with fail
        by_cases hxy : x = y
        · rw [eqGB_iff.2 hxy] at hne
          have Hxy := Lib.hid hxy
          clear hxy
          go_quiet (fail)
          go_wp2_with fail
          go_roundg (a.length - (j + 1))
          case measure => omega
          case rel => exact ⟨j + 1, rfl, by omega, by go_num, Lib.hid (eqG_take Hx.out Hy.out Heq.out Hxy.out), below_dn Hb.out _⟩
        · rw [eqGB_no hxy] at hne
          have hF : a ≠ b := fun h => hxy (by have h1 := Hx.out; rw [h, Hy.out] at h1; injection h1 with h1; exact h1.symm)
          obtain rfl : T = false := HT.out.trans (decide_eq_false hF)
          clear hF hxy
          go_quiet (fail)
          go_wp2_with fail
          go_ret
          exact ⟨rfl, below_dn Hb.out _⟩
      · obtain rfl : j = a.length := by omega
        have hE := Heq.out
        rw [List.take_length, List.take_of_length_le (by rw [← Hl.out]; exact Nat.le_refl _)] at hE
        obtain rfl : T = true := HT.out.trans (decide_eq_true hE)
        go_wp2_with fail
        go_ret
        exact ⟨rfl, Hb.out⟩
  · rw [decide_eq_false (fun h => hl (by rw [h]))]
    have hd2 : ((a.length : Int) != b.length) = true := by simp; omega
    go_enter Tryz.func77, Tryz.ntmps77
    go_wp2_with fail
    go_ret
    exact ⟨rfl, Below.refl _ _⟩
theorem infoG3 : (Tryz.prog.info? 35).map (fun i => (i.zero, i.size, i.bytes)) = some (some (.agg #[.int .i64 0, .int .i64 0, .int .i64 0, .int .i64 0]), 4, 32) := by kernel_rfl
end Go.Proofs.YtmpafidkpangeaaGreat
namespace Go.Proofs.YtmpafidkpangeaaGreat
open Go.RowKit
attribute [local irreducible] World.cell?
set_option maxRecDepth 100000 in
set_option maxHeartbeats 3200000 in
theorem sequalC (B C : Nat) (n m : Int) (v u : Value) (a b : List Gt) (w : World) (hv : gtE.Sl w B v a) (hu : gtE.Sl w C u b) (hm : a.length ≤ 1048576) (hm' : b.length ≤ 1048576) :
    Calls Tryz.prog 26 #[.agg #[.int .i64 n, v], .agg #[.int .i64 m, u]] w fun e w' => e = .returned (.bool (decide (n = m) && decide (a = b))) ∧ Below w.heap.size w w' := by
  have H := Lib.hid (fun W (h1 : gtE.Sl W B v a) (h2 : gtE.Sl W C u b) => sgates B C v u a b W h1 h2 hm hm')
  have Hb0 := Lib.hid (show Below w.heap.size w ((w.alloc (.cells #[.int .i64 n, v] 26)).alloc (.cells #[.int .i64 m, u] 26)) by go_grown)
  have HX := Lib.hid (alloc_blk (.cells #[.int .i64 m, u] 26) (heap_alloc_new w (.cells #[.int .i64 n, v] 26)))
  have HY := Lib.hid (show ((w.alloc (.cells #[.int .i64 n, v] 26)).alloc (.cells #[.int .i64 m, u] 26)).heap[w.heap.size + 1]? = some (.cells #[.int .i64 m, u] 26 (0, 0)) by
    simpa using heap_alloc_new (w.alloc (.cells #[.int .i64 n, v] 26)) (.cells #[.int .i64 m, u] 26))
  have Hv := Lib.hid (hv.below Hb0.out)
  have Hu := Lib.hid (hu.below Hb0.out)
  obtain ⟨c0, c1⟩ := blk_cells2 HX.out
  obtain ⟨d0, d1⟩ := blk_cells2 HY.out
  have hxl := lt_of_block HX.out
  have hyl := lt_of_block HY.out
  obtain ⟨pa, ca, rfl, -, -⟩ := hv
  obtain ⟨pb, cb, rfl, -, -⟩ := hu
  by_cases h : n = m
  · subst h
    rw [decide_eq_true rfl, Bool.true_and]
    have hnn : (n == n) = true := by simp
    generalize decide (a = b) = T at *
    go_enter Tryz.func26, Tryz.ntmps26
    go_wp2_with fail
    refine (H.out _ Hv.out Hu.out).mono ?_
    rintro e w1 ⟨rfl, hb1⟩
    have Hb1 := Lib.hid (below_nx Hb0.out hb1)
    clear hb1
    go_wp2_with fail
    go_ret
    exact ⟨rfl, Hb1.out⟩
  · rw [decide_eq_false h, Bool.false_and]
    have hnn : (n == m) = false := by simpa using h
    clear h
    go_enter Tryz.func26, Tryz.ntmps26
    go_wp2_with fail
    go_ret
    exact ⟨rfl, Hb0.out⟩
end Go.Proofs.YtmpafidkpangeaaGreat
namespace Go.Proofs.YtmpafidkpangeaaGreat
/-- The root's power below a gate's numerators. -/
def scK (k : Int) : Nat := if k = 4 then 1 else 0
end Go.Proofs.YtmpafidkpangeaaGreat
