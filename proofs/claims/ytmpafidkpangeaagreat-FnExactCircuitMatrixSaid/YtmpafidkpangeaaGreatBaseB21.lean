/- BaseB21: several of our texts in one: MtU PmL PmS PmT MtG PmKp. -/
import Derived.Test.YtmpafidkpangeaaGreatBaseB04
import Derived.Test.YtmpafidkpangeaaGreatBaseB12
import Derived.Test.YtmpafidkpangeaaGreatBaseB11
import Derived.Test.YtmpafidkpangeaaGreatBaseB20
import Derived.Test.YtmpafidkpangeaaGreatGtB
import Derived.Test.YtmpafidkpangeaaGreatBaseB08
import Derived.Test.YtmpafidkpangeaaGreatBaseB06
import Derived.Test.YtmpafidkpangeaaGreatPhS
namespace Go.Proofs.YtmpafidkpangeaaGreat
open Go.RowKit
theorem amps_rect {n : Nat} : ∀ {M : List (List Dw)}, (∀ r ∈ M, r.length = n) → amps M = M.length * n
  | [], _ => by simp [amps]
  | r :: M, h => by
    have h1 := amps_rect (M := M) fun s hs => h s (List.mem_cons_of_mem _ hs)
    have h2 := h r (List.mem_cons_self ..)
    unfold amps at *
    rw [List.map_cons, List.sum_cons, h1, h2, List.length_cons, Nat.succ_mul]
    omega
theorem small_amps {n k : Nat} {M : List (List Dw)} (h : ∀ r ∈ M, r.length = n) (hl : M.length = k) (hk : k ≤ 16) (hn : n ≤ 16) : amps M ≤ 256 := by
  rw [amps_rect h, hl]
  exact Nat.mul_le_mul hk hn
theorem mtB_amps {M : List (List Dw)} (h : mtB M = true) : amps M ≤ 256 := small_amps (fun r hr => ((mtB_iff.1 h).2 r hr).1) rfl (mtB_len h) (mtB_len h)
theorem adjM_amps (M : List (List Dw)) : (adjM M).length ≤ 16 ∧ amps (adjM M) ≤ 256 := by
  cases h : mtB M with
  | false => rw [adjM_no h]; exact ⟨by decide, by decide⟩
  | true =>
    have hl := adjM_len h
    have h16 := mtB_len h
    refine ⟨by omega, small_amps (n := M.length) (fun r hr => ?_) hl h16 h16⟩
    rw [adjM_yes h] at hr
    obtain ⟨i, _, rfl⟩ := List.mem_map.1 hr
    rw [List.length_map, col_len]
theorem mulM_amps (A B : List (List Dw)) : (mulM A B).length ≤ 16 ∧ amps (mulM A B) ≤ 256 := by
  cases h : mulMB A B with
  | false => rw [show mulM A B = [] from if_neg (by rw [h]; decide)]; exact ⟨by decide, by decide⟩
  | true =>
    have hB : mtB B = true := by
      unfold mulMB at h
      simp only [Bool.and_eq_true] at h
      exact h.1.1.2
    have h16 := mtB_len hB
    have hl : (mulM A B).length = B.length := by rw [show mulM A B = colsM (mulML A B) from if_pos h, colsM_len, mulML_len]
    refine ⟨by omega, small_amps (n := B.length) (fun r hr => ?_) hl h16 h16⟩
    rw [show mulM A B = colsM (mulML A B) from if_pos h] at hr
    obtain ⟨i, _, rfl⟩ := List.mem_map.1 hr
    rw [col_len, mulML_len]
theorem basisL_len (n i : Int) : (basisL n i).length ≤ 16 := by
  unfold basisL
  split
  · rename_i h
    rw [List.length_set, List.length_replicate]
    rcases (show n = 1 ∨ n = 2 ∨ n = 3 ∨ n = 4 by omega) with rfl | rfl | rfl | rfl <;> decide
  · exact Nat.zero_le _
theorem amps_le16 : ∀ {M : List (List Dw)}, (∀ r ∈ M, r.length ≤ 16) → amps M ≤ M.length * 16
  | [], _ => by simp [amps]
  | r :: M, h => by
    have h1 := amps_le16 (M := M) fun s hs => h s (List.mem_cons_of_mem _ hs)
    have h2 := h r (List.mem_cons_self ..)
    unfold amps at *
    rw [List.map_cons, List.sum_cons, List.length_cons, Nat.succ_mul]
    omega
theorem idM_amps (n : Int) : (idM n).length ≤ 16 ∧ amps (idM n) ≤ 256 := by
  by_cases h : 1 ≤ n ∧ n ≤ 4
  · have hl := idM_len h
    have h16 : 2 ^ n.toNat ≤ 16 := by rcases (show n = 1 ∨ n = 2 ∨ n = 3 ∨ n = 4 by omega) with rfl | rfl | rfl | rfl <;> decide
    have h2 := amps_le16 (M := idM n) fun r hr => by
      rw [idM_yes h] at hr
      obtain ⟨i, _, rfl⟩ := List.mem_map.1 hr
      exact basisL_len n _
    exact ⟨by omega, by omega⟩
  · rw [idM_no h]; exact ⟨by decide, by decide⟩
attribute [local irreducible] World.cell?
set_option maxRecDepth 100000 in
set_option maxHeartbeats 3200000 in
theorem suni_yes (B C : Nat) (v : Value) (M : List (List Dw)) (w : World) (hv : DSM w B C v M) (hM : mtB M = true) :
    Calls Tryz.prog 14 #[v] w fun e w' => e = .returned (.bool (uniB M)) ∧ Below w.heap.size w w' := by
  have hlen := mtB_len hM
  have ham := mtB_amps hM
  have h0 := (mtB_iff.1 hM).1
  have Hv := Lib.hid hv
  have H1 := Lib.hid (svalidMt B C v M w hv (by omega) (by omega))
  have H2 := Lib.hid (fun W (h : DSM W B C v M) => sadj B C v M W h (by omega) (by omega))
  have ha := adjM_amps M
  have H3 := Lib.hid (fun P Q u W (h : DSM W P Q u (adjM M)) (h' : DSM W B C v M) => smulM P Q B C u v (adjM M) M W h h' (by omega) (by omega) (by omega) (by omega))
  have hmu := mulM_amps (adjM M) M
  have hid := idM_amps (qc M.length)
  have H4 := Lib.hid (fun P Q R S u x W (h : DSM W P Q u (mulM (adjM M) M)) (h' : DSM W R S x (idM (qc M.length))) => sequalMt P Q R S u x (mulM (adjM M) M) (idM (qc M.length)) W h h' (by omega) (by omega) (by omega) (by omega))
  have H5 := Lib.hid (fun W => sident (qc M.length) W)
  have hU : uniB M = (mulMB (adjM M) M && decide (mulM (adjM M) M = idM (qc M.length))) := by unfold uniB; rw [hM]; rfl
  rw [hM] at H1
  obtain ⟨T, hT⟩ : ∃ T, T = uniB M := ⟨_, rfl⟩
  rw [← hT]
  have HT := Lib.hid (hT.trans hU)
  obtain ⟨r, hr⟩ : ∃ r, M[0]? = some r := ⟨M[0], List.getElem?_eq_getElem h0⟩
  have hrl := (mtB_row hM hr).1
  have Hq := Lib.hid (fun a cap W => squbits a M.length cap W)
  clear hT hU hM ha hmu hid
  generalize mulM (adjM M) M = X at *
  generalize mulMB (adjM M) M = t at *
  generalize adjM M = Y at *
  generalize idM (qc M.length) = I at *
  generalize qc M.length = n at *
  obtain ⟨a, cap, rfl, hcap, hg⟩ := hv
  obtain ⟨g, rfl, hgB, hgC, hrow⟩ := hg h0
  have Hrow := Lib.hid hrow
  clear hrow
  go_enter Tryz.func14, Tryz.ntmps14
  go_wp2_with fail
  refine (H1.out).mono ?_
  rintro e w1 ⟨rfl, hb1⟩
  have Hb1 := Lib.hid hb1
  have Ha := Lib.hid (H2.out w1 (Hv.out.below hb1))
  clear hb1 H1 H2
  go_wp2_with fail
  refine (Ha.out).mono ?_
  rintro e w2 ⟨y, rfl, hdy, hb2⟩
  have Hb2 := Lib.hid (Hb1.out.trans (hb2.mono Hb1.out.size))
  have Hm := Lib.hid (H3.out _ _ y w2 hdy (Hv.out.below Hb2.out))
  clear hb2 hdy Ha Hb1 H3
  go_wp2_with fail
  refine (Hm.out).mono ?_
  rintro e w3 ⟨⟨x, rfl, hdx⟩, hb3⟩
  have Hb3 := Lib.hid (Hb2.out.trans (hb3.mono Hb2.out.size))
  have Hdx := Lib.hid hdx
  have r3 := Hrow.out.block (Hb3.out.block _ Hrow.out.lt) fun k _ _ hk => Hb3.out.block k hk
  obtain ⟨p, pc, c0, -⟩ := r3.cell hr
  rw [hrl] at c0
  have hgl := r3.lt
  clear hb3 hdx Hb2 Hm r3
  cases t with
  | false =>
    obtain rfl : T = false := HT.out
    go_wp2_with fail
    go_returns
    exact ⟨rfl, Hb3.out⟩
  | true =>
    go_wp2_with fail
    refine (Hq.out _ _ _).mono ?_
    rintro e w4 ⟨rfl, rfl⟩
    go_wp2_with fail
    refine (H5.out _).mono ?_
    rintro e w5 ⟨z, rfl, hdz, hb5⟩
    have Hb5 := Lib.hid (Hb3.out.trans (hb5.mono Hb3.out.size))
    have He := Lib.hid (H4.out _ _ _ _ x z w5 (Hdx.out.below hb5) hdz)
    clear hb5 hdz Hb3
    have hTe : T = decide (X = I) := HT.out
    rw [← hTe] at He
    clear hTe
    go_wp2_with fail
    refine (He.out).mono ?_
    rintro e w6 ⟨rfl, hb6⟩
    have Hb6 := Lib.hid (Hb5.out.trans (hb6.mono Hb5.out.size))
    clear hb6
    go_wp2_with fail
    go_returns
    exact ⟨rfl, Hb6.out⟩
set_option maxRecDepth 100000 in
set_option maxHeartbeats 1600000 in
theorem suni (B C : Nat) (v : Value) (M : List (List Dw)) (w : World) (hv : DSM w B C v M) (hn : M.length ≤ 1048576) (hm : amps M ≤ 1048576) :
    Calls Tryz.prog 14 #[v] w fun e w' => e = .returned (.bool (uniB M)) ∧ Below w.heap.size w w' := by
  cases hM : mtB M with
  | true => exact suni_yes B C v M w hv hM
  | false =>
    have hU : uniB M = false := by unfold uniB; rw [hM]; rfl
    rw [hU]
    have H1 := Lib.hid (svalidMt B C v M w hv hn hm)
    rw [hM] at H1
    clear hM hU
    obtain ⟨a, cap, rfl, -, -⟩ := hv
    go_enter Tryz.func14, Tryz.ntmps14
    go_wp2_with fail
    refine (H1.out).mono ?_
    rintro e w1 ⟨rfl, hb1⟩
    have Hb1 := Lib.hid hb1
    clear hb1
    go_wp2_with fail
    go_ret
    exact ⟨rfl, Hb1.out⟩
end Go.Proofs.YtmpafidkpangeaaGreat
namespace Go.Proofs.YtmpafidkpangeaaGreat
end Go.Proofs.YtmpafidkpangeaaGreat
namespace Go.Proofs.YtmpafidkpangeaaGreat
open Go.RowKit
attribute [local irreducible] World.cell?
end Go.Proofs.YtmpafidkpangeaaGreat
namespace Go.Proofs.YtmpafidkpangeaaGreat
open Go.RowKit
attribute [local irreducible] World.cell?
end Go.Proofs.YtmpafidkpangeaaGreat
namespace Go.Proofs.YtmpafidkpangeaaGreat
open Go.RowKit
/-- A row's slice in its place. -/
def SP1 (w : World) (g j D : Nat) (x : Value) (r : List Dw) (w' : World) : Prop := w'.cell? ⟨g, j, none⟩ = some x ∧ g < w'.heap.size ∧ Hid (DSl w' D x r) ∧ Below w.heap.size w w'
theorem SP1.drew {w w' : World} {g j D : Nat} {x : Value} {r : List Dw} (h : SP1 w g j D x r w') : SP1 w g j D x r w'.drew :=
  let ⟨a, z, d, l⟩ := h; ⟨a, z, Lib.hid (d.out.block fun _ _ _ => rfl), l.drew⟩
theorem SP1.below {w w1 w2 : World} {g j D : Nat} {x : Value} {r : List Dw} (h : SP1 w g j D x r w1) (hb : Below w1.heap.size w1 w2) : SP1 w g j D x r w2 :=
  let ⟨a, z, d, l⟩ := h
  ⟨cell_below a hb z, Nat.lt_of_lt_of_le z hb.size, Lib.hid (d.out.below hb), below_up l hb l.size⟩
theorem SP1.dsl {w w' : World} {g j D : Nat} {x : Value} {r : List Dw} (h : SP1 w g j D x r w') : Hid (DSl w' D x r) := let ⟨_, _, d, _⟩ := h; d
theorem SP1.low {w w' : World} {g j D : Nat} {x : Value} {r : List Dw} (h : SP1 w g j D x r w') : Below w.heap.size w w' := let ⟨_, _, _, l⟩ := h; l
attribute [local irreducible] World.cell?
end Go.Proofs.YtmpafidkpangeaaGreat
namespace Go.Proofs.YtmpafidkpangeaaGreat
end Go.Proofs.YtmpafidkpangeaaGreat
