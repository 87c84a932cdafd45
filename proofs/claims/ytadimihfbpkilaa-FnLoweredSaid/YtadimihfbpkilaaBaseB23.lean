/- BaseB23: several of our texts in one: DcD DcU. -/
import Derived.Test.YtadimihfbpkilaaCiB
import Derived.Test.YtadimihfbpkilaaLwP
import Derived.Test.YtadimihfbpkilaaLyM
import Derived.Test.YtadimihfbpkilaaApt
import Derived.Test.YtadimihfbpkilaaGpM
import Derived.Test.YtadimihfbpkilaaBaseB21
namespace Go.Proofs.Ytadimihfbpkilaa
open Go.RowKit
attribute [local irreducible] World.cell?
set_option maxRecDepth 100000 in
set_option maxHeartbeats 3200000 in
theorem drawIG (a0 : Option Addr) (len cap : Nat) (w : World) (hcode : CodeAt w w.heap.size a0 len) :
    Calls Try.prog 37 #[.slice a0 len cap] w fun e w' => (∃ g, e = .returned (.agg #[.int .i64 g.k, .int .i64 g.a, .int .i64 g.b, .int .i64 g.c]) ∧ GtI g) ∧ Below w.heap.size w w' := by
  have Hcode := Lib.hid (show CodeAt (w.alloc (.cells #[.int .i64 0, .int .i64 0, .int .i64 0, .int .i64 0] 30)) (w.alloc (.cells #[.int .i64 0, .int .i64 0, .int .i64 0, .int .i64 0] 30)).heap.size a0 len from (hcode.below ((Below.refl _ _).alloc (Nat.le_refl _) (.cells #[.int .i64 0, .int .i64 0, .int .i64 0, .int .i64 0] 30))).mono (by simp))
  have Hr0 := Lib.hid (heap_alloc_new w (.cells #[.int .i64 0, .int .i64 0, .int .i64 0, .int .i64 0] 30))
  clear hcode
  go_enter Try.func37, Try.ntmps37
  go_wp2_with fail
  refine (new_any a0 len cap _ Hcode.out).mono ?_
  rintro e w1 ⟨rfl, hc1, hb1, hz1⟩
  have hz0 : (w.alloc (.cells #[.int .i64 0, .int .i64 0, .int .i64 0, .int .i64 0] 30)).heap.size = w.heap.size + 1 := by simp
  rw [hz0] at hc1 hz1
  have Hr1 := Lib.hid (below_blk hb1 (lt_of_block Hr0.out) Hr0.out)
  have Hc1 := Lib.hid hc1
  have Hb1 := Lib.hid (below_up (B := w.heap.size) (w := w) (by go_grown) hb1 (by simp))
  have hs1 := hb1.size
  rw [hz0] at hs1
  clear hc1 hb1
  go_wp2_with fail
  refine (below_any (w.heap.size + 1) 4 _ Hc1.out (by omega) (by omega)).mono ?_
  rintro e w2 ⟨⟨x, x0, x1, rfl⟩, hc2, ho2⟩
  obtain ⟨k, rfl⟩ : ∃ k : Nat, x = k := ⟨x.toNat, by omega⟩
  have hs2 := ho2.size
  have Hr2 := Lib.hid (own_blk ho2 (by omega) Hr1.out)
  have Hc2 := Lib.hid hc2
  have Hb2 := Lib.hid (below_own Hb1.out ho2 (by omega) (by omega))
  clear hc2 ho2 Hc1 Hb1
  have HG := bentG (w.heap.size + 1) (1 + k) w2 Hc2.out (by omega) (by omega) (by omega)
  rw [show ((1 + k : Nat) : Int) = 1 + (k : Int) by simp] at HG
  have HG := Lib.hid HG
  go_wp2_with fail
  refine HG.out.mono ?_
  rintro e w3 ⟨⟨g, rfl, hgi⟩, hc3, ho3⟩
  clear HG
  have hs3 := ho3.size
  have Hr3 := Lib.hid (own_blk ho3 (by omega) Hr2.out)
  have Hb3 := Lib.hid (below_own Hb2.out ho3 (by omega) (by omega))
  clear hc3 ho3 Hc2 Hb2 Hr2
  obtain ⟨r0, r1, r2, r3⟩ := blk_cells Hr3.out
  have fR := fun o => free_at Hr3.out o
  have hrl := lt_of_block Hr3.out
  go_wp2_with fail
  obtain ⟨k0', k1', k2', k3'⟩ := blk_cells (set4_at (u0 := .int .i64 g.k) (u1 := .int .i64 g.a) (u2 := .int .i64 g.b) (u3 := .int .i64 g.c) Hr3.out)
  refine bodyPost_ret (v := (.agg #[.int .i64 g.k, .int .i64 g.a, .int .i64 g.b, .int .i64 g.c])) (by simp only [results, Try.results37]; simp [go_sem, k0', k1', k2', k3']) rfl ⟨⟨g, rfl, hgi⟩, ?_⟩
  have := Hb3.out
  go_grown
set_option maxRecDepth 100000 in
set_option maxHeartbeats 1600000 in
theorem drawDG (a0 : Option Addr) (len cap : Nat) (w : World) (hcode : CodeAt w w.heap.size a0 len) :
    Calls Try.prog 16 #[.slice a0 len cap] w fun e w' => (∃ g, e = .returned (.agg #[.int .i64 g.k, .int .i64 g.a, .int .i64 g.b, .int .i64 g.c]) ∧ GtI g) ∧ Below w.heap.size w w' := by
  have Hcode := Lib.hid (show CodeAt (w.alloc (.cells #[.int .i64 0, .int .i64 0, .int .i64 0, .int .i64 0] 30)) (w.alloc (.cells #[.int .i64 0, .int .i64 0, .int .i64 0, .int .i64 0] 30)).heap.size a0 len from (hcode.below ((Below.refl _ _).alloc (Nat.le_refl _) (.cells #[.int .i64 0, .int .i64 0, .int .i64 0, .int .i64 0] 30))).mono (by simp))
  have Hr0 := Lib.hid (heap_alloc_new w (.cells #[.int .i64 0, .int .i64 0, .int .i64 0, .int .i64 0] 30))
  have Hb0 := Lib.hid (show Below w.heap.size w (w.alloc (.cells #[.int .i64 0, .int .i64 0, .int .i64 0, .int .i64 0] 30)) by go_grown)
  clear hcode
  go_enter Try.func16, Try.ntmps16
  go_wp2_with fail
  refine (drawIG a0 len cap _ Hcode.out).mono ?_
  rintro e w3 ⟨⟨g, rfl, hgi⟩, hb3⟩
  have Hr3 := Lib.hid (below_blk hb3 (lt_of_block Hr0.out) Hr0.out)
  have Hb3 := Lib.hid (below_nx Hb0.out hb3)
  clear hb3
  obtain ⟨r0, r1, r2, r3⟩ := blk_cells Hr3.out
  have fR := fun o => free_at Hr3.out o
  have hrl := lt_of_block Hr3.out
  go_wp2_with fail
  obtain ⟨k0', k1', k2', k3'⟩ := blk_cells (set4_at (u0 := .int .i64 g.k) (u1 := .int .i64 g.a) (u2 := .int .i64 g.b) (u3 := .int .i64 g.c) Hr3.out)
  refine bodyPost_ret (v := (.agg #[.int .i64 g.k, .int .i64 g.a, .int .i64 g.b, .int .i64 g.c])) (by simp only [results, Try.results16]; simp [go_sem, k0', k1', k2', k3']) rfl ⟨⟨g, rfl, hgi⟩, ?_⟩
  have := Hb3.out
  go_grown
set_option maxRecDepth 100000 in
set_option maxHeartbeats 1600000 in
theorem drawDGs (a0 : Option Addr) (len cap : Nat) (w : World) (hcode : CodeAt w w.heap.size a0 len) :
    Calls Try.prog 9 #[.slice a0 len cap] w fun e w' => (∃ n v l, e = .returned v ∧ CiDx 5 n l ∧ gtE.Sl w' w.heap.size v l) ∧ Below w.heap.size w w' := by
  have Hcode := Lib.hid hcode
  clear hcode
  go_enter Try.func9, Try.ntmps9
  go_wp2_with fail
  refine (new_any a0 len cap _ Hcode.out).mono ?_
  rintro e w1 ⟨rfl, hc1, hb1, hz1⟩
  have Hc1 := Lib.hid hc1
  have Hb1 := Lib.hid hb1
  have hs1 := hb1.size
  clear hc1 hb1
  have HG := Lib.hid (bentCx w.heap.size 5 w1 Hc1.out (by omega) (by omega))
  go_wp2_with fail
  refine HG.out.mono ?_
  rintro e w2 ⟨⟨n, v, l, rfl, hd, hsl⟩, hc2, ho2⟩
  have Hd := Lib.hid hd
  have Hsl := Lib.hid (hsl.mono hs1)
  have Hb2 := Lib.hid (below_own Hb1.out ho2 (by omega) (by omega))
  obtain ⟨p, c, rfl, -, -⟩ := id hsl
  clear hc2 ho2 Hc1 Hb1 HG hd hsl
  have hfd : ∀ W : World, (Instr.field 46 (.agg #[.int .i64 n, .slice p l.length c]) 1).run Try.prog W = .ok (.slice p l.length c) W := fun _ => by kernel_rfl
  go_wp2_with fail
  go_ret
  exact ⟨⟨n, _, l, rfl, Hd.out, Hsl.out⟩, Hb2.out⟩
end Go.Proofs.Ytadimihfbpkilaa
namespace Go.Proofs.Ytadimihfbpkilaa
/-- How many GateH a decomposition holds. -/
theorem hs_dcX {g : Gt} (h : g.k = 1) : hs (dcG g) = 0 := by
  unfold dcG
  rw [if_neg (by omega), if_neg (by omega), if_neg (by omega)]
  simp [hs, scK, h]
theorem hs_dcN : ∀ L : List Gt, hs (dcL L) ≤ 2 * nx L
  | [] => Nat.le_refl _
  | g :: L => by
    have h1 := hs_dcN L
    rw [show dcL (g :: L) = dcG g ++ dcL L from rfl, hs_appL, show g :: L = [g] ++ L from rfl, nx_app]
    by_cases hk : g.k = 1
    · rw [hs_dcX hk]; omega
    · have h2 := (hs_dcG (g := g)).2
      rw [show nx [g] = 1 by simp [nx, hk]]
      omega
theorem gb_found {L : List Gt} {n : Nat} (h1 : 1 ≤ n) (h4 : n ≤ 4) (hv : ∀ g ∈ L, gtB g (n : Int) = true) (hh : hs L ≤ 29) : ∀ i : Nat, i < 2 ^ n → agsB L (basisL n i) = true := fun i hi => by
  have h := cir_found h1 h4 hv hh
  unfold cirB at h
  exact List.all_eq_true.1 h i (List.mem_range.2 hi)
theorem ag_of {L : List Gt} {v : List Dw} (h : agsB L v = true) : agsF L v = some (agsV L v) ∧ stB v = true := by
  unfold agsB at h
  unfold agsV
  cases ho : agsO L v with
  | none => rw [ho] at h; cases h
  | some o =>
    unfold agsO at ho
    split at ho
    · rename_i hs
      exact ⟨ho, hs⟩
    · cases ho
theorem cirC_mt {L : List Gt} {n : Nat} (h1 : 1 ≤ n) (h4 : n ≤ 4) (hf : ∀ i : Nat, i < 2 ^ n → agsB L (basisL n i) = true) : mtB (cirC L n) = true := by
  refine mtB_iff.2 ⟨by rw [cirC_len]; exact Nat.two_pow_pos n, fun r hr => ?_⟩
  obtain ⟨j, hj, rfl⟩ := List.mem_map.1 hr
  have hj := List.mem_range.1 hj
  obtain ⟨h2, h3⟩ := ag_of (hf j hj)
  exact ⟨by rw [agsV_len (hf j hj), basis_len h1 h4 hj, cirC_len], agsF_st h2 h3⟩
/-- A matrix is apart from itself by no phase. -/
theorem gp_self {A : List (List Dw)} (h : mtB A = true) : gpV A A = 0 ∧ gpB A A = true := by
  have h0 : gpAt A A 0 = true := by
    rw [gpAt_map rfl (fun r hr => ((mtB_iff.1 h).2 r hr).2), decide_eq_true_eq]
    conv => lhs; rw [← List.map_id A]
    exact (List.map_congr_left fun r hr => sc_zero ((mtB_iff.1 h).2 r hr).2 (i := ((0 : Nat) : Int)) (by decide)).symm
  have h1 : gpF A A = some 0 := by
    unfold gpF
    rw [if_pos (by rw [h]; simp), show List.range 8 = 0 :: [1, 2, 3, 4, 5, 6, 7] from rfl, List.find?_cons_of_pos h0]
  unfold gpV gpB
  rw [h1]
  exact ⟨rfl, rfl⟩
theorem cirC_dc {L : List Gt} {n : Nat} (h1 : 1 ≤ n) (h4 : n ≤ 4) (hv : ∀ g ∈ L, gtB g (n : Int) = true) (hf : ∀ i : Nat, i < 2 ^ n → agsB L (basisL n i) = true) (hf' : ∀ i : Nat, i < 2 ^ n → agsB (dcL L) (basisL n i) = true) : cirC (dcL L) n = cirC L n := by
  unfold cirC
  refine List.map_congr_left fun i hi => ?_
  have hi := List.mem_range.1 hi
  obtain ⟨a1, a2⟩ := ag_of (hf i hi)
  obtain ⟨b1, _⟩ := ag_of (hf' i hi)
  refine ags_dc (v := basisL (n : Int) (i : Int)) ?_ a2 a1 b1
  have hq : qc (2 ^ n) = (n : Int) := qc_of (n := (n : Int)) (by omega)
  rw [basis_len h1 h4 hi, hq]
  exact hv
theorem apt_same {a b : List Gt} {n : Nat} (h1 : 1 ≤ n) (h4 : n ≤ 4) (hf : ∀ i : Nat, i < 2 ^ n → agsB a (basisL n i) = true) (hf' : ∀ i : Nat, i < 2 ^ n → agsB b (basisL n i) = true) (h : cirC a n = cirC b n) : aptV a b n = 0 ∧ aptO a b n = true := by
  obtain ⟨e1, e2⟩ := aptB_yes (a := a) (b := b) (n := n) fun k hk => ⟨hf k hk, hf' k hk⟩
  obtain ⟨g1, g2⟩ := gp_self (cirC_mt h1 h4 hf')
  rw [e1, e2, h]
  exact ⟨g1, g2⟩
theorem bs_dc {g : Gt} {n : Int} (h : gtB g n = true) : ∀ x ∈ dcG g, bsG x = true := by
  have hkd := gtB_kinds h
  have one : ∀ q : Int, bsG ⟨4, q, 0, 0⟩ = true ∧ bsG ⟨7, q, 0, 0⟩ = true ∧ bsG ⟨8, q, 0, 0⟩ = true := fun q => ⟨rfl, rfl, rfl⟩
  have cx : ∀ q r : Int, bsG ⟨9, q, r, 0⟩ = true := fun q r => rfl
  unfold dcG
  split
  · intro x hx
    simp only [List.mem_cons, List.not_mem_nil, or_false] at hx
    rcases hx with rfl | rfl | rfl <;> rfl
  · split
    · intro x hx
      simp only [List.mem_cons, List.not_mem_nil, or_false] at hx
      rcases hx with rfl | rfl | rfl <;> rfl
    · split
      · intro x hx
        simp only [List.mem_cons, List.not_mem_nil, or_false] at hx
        rcases hx with rfl | rfl | rfl | rfl | rfl | rfl | rfl | rfl | rfl | rfl | rfl | rfl | rfl | rfl | rfl <;> rfl
      · intro x hx
        rw [List.mem_singleton] at hx
        subst hx
        unfold bsG ar
        rcases hkd with h1 | h1 | h1
        · rw [if_pos ⟨h1.1, h1.2.1⟩]; rfl
        · rw [show decide (x.k = 9) = true from decide_eq_true (by omega), Bool.or_true]
        · omega
/-- What the law asks of a drawn list of gates that are valid on three qubits. -/
theorem law_lowered {n : Int} {L : List Gt} (hd : CiDx 5 n L) (hv : ∀ g ∈ L, gtB g 3 = true) : (∀ x ∈ dcL L, bsG x = true) ∧ aptV (dcL L) L 3 = 0 ∧ aptO (dcL L) L 3 = true := by
  have h1 := hs_dcN L
  have h2 := (hs_dcL L).1
  have h3 := hd.2
  have hf := gb_found (L := L) (n := 3) (by omega) (by omega) hv (by omega)
  have hv' : ∀ x ∈ dcL L, gtB x ((3 : Nat) : Int) = true := fun x hx => by
    obtain ⟨g, hg, hx⟩ := List.mem_flatMap.1 hx
    exact dcG_valid (hv g hg) x hx
  have hf' := gb_found (L := dcL L) (n := 3) (by omega) (by omega) hv' (by omega)
  refine ⟨fun x hx => ?_, apt_same (by omega) (by omega) hf' hf (cirC_dc (by omega) (by omega) hv hf hf')⟩
  obtain ⟨g, hg, hx⟩ := List.mem_flatMap.1 hx
  exact bs_dc (hv g hg) x hx
/-- What the law asks of a gate. -/
theorem law_gate (g : Gt) : (g.k = 12 → cntT (dcG g) = 7 ∧ (dcG g).length = 15) ∧ (g.k = 7 ∨ g.k = 8 → cntT (dcG g) = 1) ∧ (g.k ≠ 12 → g.k ≠ 7 → g.k ≠ 8 → cntT (dcG g) = 0) := by
  obtain ⟨k, a, b, c⟩ := g
  obtain ⟨h10, h11, h12, hno⟩ := @dcG_at k a b c
  simp only
  refine ⟨fun h => ?_, fun h => ?_, fun q1 q2 q3 => ?_⟩
  · rw [h12 h]; exact ⟨rfl, rfl⟩
  · rw [hno (by omega) (by omega) (by omega)]
    rcases h with rfl | rfl <;> rfl
  · by_cases k10 : k = 10
    · rw [h10 k10]; rfl
    by_cases k11 : k = 11
    · rw [h11 k11]; rfl
    rw [hno k10 k11 q1]
    simp [cntT, cntK, q2, q3]
end Go.Proofs.Ytadimihfbpkilaa
