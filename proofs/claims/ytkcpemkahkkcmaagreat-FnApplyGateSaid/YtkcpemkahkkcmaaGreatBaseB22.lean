/- BaseB22: several of our texts in one: ApKe ApK. -/
import Derived.Test.YtkcpemkahkkcmaaGreatApKd
import Derived.Test.YtkcpemkahkkcmaaGreatBaseB16
import Derived.Test.YtkcpemkahkkcmaaGreatBaseB23
import Derived.Test.YtkcpemkahkkcmaaGreatBaseB17
import Derived.Lib.SliceRun
import Derived.Test.YtkcpemkahkkcmaaGreatBaseB20
import Derived.Test.YtkcpemkahkkcmaaGreatMtKc
import Derived.Test.YtkcpemkahkkcmaaGreatBaseB21
namespace Go.Proofs.YtkcpemkahkkcmaaGreat
open Go.RowKit
attribute [local irreducible] World.cell?
end Go.Proofs.YtkcpemkahkkcmaaGreat
namespace Go.Proofs.YtkcpemkahkkcmaaGreat
open Go.RowKit
theorem col_id1 : ∀ k : Fin 2, col (idM 1) k.val = basisL 1 ((k.val : Nat) : Int) := by decide +kernel
theorem col_id2 : ∀ k : Fin 4, col (idM 2) k.val = basisL 2 ((k.val : Nat) : Int) := by decide +kernel
theorem col_id3 : ∀ k : Fin 8, col (idM 3) k.val = basisL 3 ((k.val : Nat) : Int) := by decide +kernel
theorem col_id4 : ∀ k : Fin 16, col (idM 4) k.val = basisL 4 ((k.val : Nat) : Int) := by decide +kernel
theorem col_id {n : Int} (h : 1 ≤ n ∧ n ≤ 4) {k : Nat} (hk : k < 2 ^ n.toNat) : col (idM n) k = basisL n (k : Int) := by
  rcases (show n = 1 ∨ n = 2 ∨ n = 3 ∨ n = 4 by omega) with rfl | rfl | rfl | rfl
  · exact col_id1 ⟨k, hk⟩
  · exact col_id2 ⟨k, hk⟩
  · exact col_id3 ⟨k, hk⟩
  · exact col_id4 ⟨k, hk⟩
theorem ag_basisB {g : Gt} {n : Int} (hg : gtB g n = true) {k : Nat} (hk : k < 2 ^ n.toNat) : agB g (basisL n (k : Int)) = true := by
  have h := gmL_rows hg (agV g (basisL n (k : Int))) (List.mem_map.2 ⟨k, List.mem_range.2 hk, rfl⟩)
  unfold agB
  unfold agV at h
  cases ho : agO g (basisL n (k : Int)) with
  | some o => rfl
  | none =>
    rw [ho] at h
    have : 0 < 2 ^ n.toNat := Nat.two_pow_pos _
    simp at h
    omega
theorem idM_rows {n : Int} (h : 1 ≤ n ∧ n ≤ 4) : ∀ r ∈ idM n, (idM n).length ≤ r.length := by
  rcases (show n = 1 ∨ n = 2 ∨ n = 3 ∨ n = 4 by omega) with rfl | rfl | rfl | rfl <;> decide +kernel
theorem basis_ok (n : Int) (h : 1 ≤ n ∧ n ≤ 4) : ∀ k : Nat, k < 2 ^ n.toNat → (∀ x ∈ basisL n (k : Int), x.ok) ∧ (basisL n (k : Int)).length ≤ 16 := by
  have h1 : ∀ k : Fin 2, (∀ x ∈ basisL 1 ((k.val : Nat) : Int), x.ok) ∧ (basisL 1 ((k.val : Nat) : Int)).length ≤ 16 := by decide +kernel
  have h2 : ∀ k : Fin 4, (∀ x ∈ basisL 2 ((k.val : Nat) : Int), x.ok) ∧ (basisL 2 ((k.val : Nat) : Int)).length ≤ 16 := by decide +kernel
  have h3 : ∀ k : Fin 8, (∀ x ∈ basisL 3 ((k.val : Nat) : Int), x.ok) ∧ (basisL 3 ((k.val : Nat) : Int)).length ≤ 16 := by decide +kernel
  have h4 : ∀ k : Fin 16, (∀ x ∈ basisL 4 ((k.val : Nat) : Int), x.ok) ∧ (basisL 4 ((k.val : Nat) : Int)).length ≤ 16 := by decide +kernel
  intro k hk
  rcases (show n = 1 ∨ n = 2 ∨ n = 3 ∨ n = 4 by omega) with rfl | rfl | rfl | rfl
  · exact h1 ⟨k, hk⟩
  · exact h2 ⟨k, hk⟩
  · exact h3 ⟨k, hk⟩
  · exact h4 ⟨k, hk⟩
attribute [local irreducible] World.cell?
set_option maxRecDepth 100000 in
set_option maxHeartbeats 1600000 in
theorem igm1 (D b : Nat) (g : Gt) (c : Value) (l : List Dw) (w : World) (hx : w.heap[b]? = some (.cells #[.int .i64 g.k, .int .i64 g.a, .int .i64 g.b, .int .i64 g.c] 25 (0, 0))) (hc : DSl w D c l) (he : Eb l) (hm : l.length ≤ 1048576) :
    Calls Tryz.prog 32 #[c, .pointer (some ⟨b, 0, none⟩)] w fun e w' => (∃ r, e = .returned (.tuple #[r, .bool (agB g l)]) ∧ DSl w' w.heap.size r (agV g l)) ∧ Below w.heap.size w w' := by
  have H := Lib.hid (iapG D g c l w hc he hm)
  obtain ⟨c0, c1, c2, c3⟩ := blk_cells hx
  have hg := lt_of_block hx
  clear hx he hm
  generalize agV g l = SL at *
  generalize agB g l = SB at *
  obtain ⟨a', cap', rfl, -, -⟩ := hc
  go_enter Tryz.func32, Tryz.ntmps32
  go_wp2_with fail
  refine (H.out).mono ?_
  rintro e w1 ⟨⟨q, rfl, hd⟩, hb1⟩
  have Hd := Lib.hid hd
  have Hb1 := Lib.hid hb1
  clear hd hb1
  go_wp2_with fail
  go_returns
  exact ⟨⟨_, rfl, Hd.out⟩, Hb1.out⟩
set_option maxRecDepth 100000 in
set_option maxHeartbeats 3200000 in
theorem imatG (g : Gt) (n : Int) (w : World) (h0 : -9223372036854775808 ≤ n) (h1 : n ≤ 9223372036854775807) : Calls Tryz.prog 10 #[(.agg #[.int .i64 g.k, .int .i64 g.a, .int .i64 g.b, .int .i64 g.c]), .int .i64 n] w fun e w' => (∃ r, e = .returned (.tuple #[r, .bool (gtB g n)]) ∧ DSM w' w.heap.size w'.heap.size r (gmM g n)) ∧ Below w.heap.size w w' := by
  have H1 := Lib.hid (fun W => ivalidG g n W h0 h1)
  have HX := Lib.hid (heap_alloc_new w (.cells #[.int .i64 g.k, .int .i64 g.a, .int .i64 g.b, .int .i64 g.c] 25))
  have Hb0 := Lib.hid (show Below w.heap.size w (w.alloc (.cells #[.int .i64 g.k, .int .i64 g.a, .int .i64 g.b, .int .i64 g.c] 25)) by go_grown)
  obtain ⟨c0, c1, c2, c3⟩ := blk_cells HX.out
  cases hg : gtB g n with
  | false =>
    rw [hg] at H1
    rw [show gmM g n = [] from if_neg (by rw [hg]; decide)]
    clear hg
    go_enter Tryz.func10, Tryz.ntmps10
    go_wp2_with fail
    refine (H1.out _).mono ?_
    rintro e w1 ⟨rfl, hb1⟩
    have Hb1 := Lib.hid (below_nx Hb0.out hb1)
    clear hb1 c0 c1 c2 c3
    go_wp2_with fail
    go_returns
    exact ⟨⟨_, rfl, DSM.nil⟩, by have := Hb1.out; go_grown⟩
  | true =>
    rw [hg] at H1
    have hn := (gtB_parts hg).1
    have H2 := Lib.hid (fun W => iident n W h0 h1)
    have hl := idM_len hn
    have eF : ∀ args w, (callFunc 32 args).run Tryz.prog w = .ok (.enter 32 args) w := Tryz.call32
    have h16 : (idM n).length ≤ 16 := (idM_amps n).1
    have H3 := Lib.hid (fun R S u W (h : DSM W R S u (idM n)) (hx : W.heap[w.heap.size]? = some (.cells #[.int .i64 g.k, .int .i64 g.a, .int .i64 g.b, .int .i64 g.c] 25 (0, 0))) =>
      imapC 32 #[.pointer (some ⟨w.heap.size, 0, none⟩)] eF R S u (idM n) (fun _ => true) (fun k => agV g (basisL n (k : Int))) W h (idM_rows hn) (by omega) (fun k hk _ => by rw [hl] at hk ⊢; exact gmL_rows hg _ (List.mem_map.2 ⟨k, List.mem_range.2 hk, rfl⟩))
        (fun k hk D c W' hW hc => by
          rw [hl] at hk
          rw [col_id hn hk] at hc
          have h3 := igm1 D w.heap.size g c (basisL n (k : Int)) W' ((hW.block _ (lt_of_block hx)).trans hx) hc (fun x hx => ok_eb ((basis_ok n hn k hk).1 x hx)) (by have := (basis_ok n hn k hk).2; omega)
          rw [ag_basisB hg hk] at h3
          exact h3))
    have hM : gmM g n = if (List.range (idM n).length).all (fun _ => true) = true then colsM (mapX (idM n).length fun k => agV g (basisL n (k : Int))) else [] := by
      rw [if_pos (by rw [List.all_eq_true]; exact fun _ _ => rfl), hl]
      exact if_pos hg
    rw [hM]
    have hT : (List.range (idM n).length).all (fun _ => true) = true := by rw [List.all_eq_true]; exact fun _ _ => rfl
    rw [hT] at H3 ⊢
    clear hg hM hT hl h16 hn
    generalize (if true = true then colsM (mapX (idM n).length fun k => agV g (basisL n (k : Int))) else []) = SL at *
    go_enter Tryz.func10, Tryz.ntmps10
    go_wp2_with fail
    refine (H1.out _).mono ?_
    rintro e w1 ⟨rfl, hb1⟩
    have HX1 := Lib.hid (below_blk hb1 (lt_of_block HX.out) HX.out)
    have Hb1 := Lib.hid (below_nx Hb0.out hb1)
    have hs1 := Hb1.out.size
    clear hb1 c0 c1 c2 c3
    go_wp2_with fail
    refine (H2.out _).mono ?_
    rintro e w2 ⟨u, rfl, hd2, hb2⟩
    have H4 := Lib.hid (H3.out _ _ _ _ hd2 (below_blk hb2 (lt_of_block HX1.out) HX1.out))
    have Hb2 := Lib.hid (below_nx Hb1.out hb2)
    have hs2 := Hb2.out.size
    clear hb2 hd2 H3
    go_wp2_with fail
    refine (H4.out).mono ?_
    rintro e w3 ⟨⟨q, rfl, hd⟩, hb3⟩
    have Hd := Lib.hid (hd.mono (D := w.heap.size) (E := w3.heap.size) hs2 (Nat.le_refl _))
    have Hb3 := Lib.hid (below_nx Hb2.out hb3)
    clear hd hb3 H4
    go_wp2_with fail
    go_returns
    exact ⟨⟨_, rfl, Hd.out⟩, Hb3.out⟩
end Go.Proofs.YtkcpemkahkkcmaaGreat
