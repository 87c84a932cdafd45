/- BaseB21: several of our texts in one: ApKb GtK GsO GtV AgD. -/
import Derived.Test.YtkcpemkahkkcmaaBaseB06
import Derived.Test.YtkcpemkahkkcmaaBaseB05
import Derived.Test.YtkcpemkahkkcmaaGsL
import Derived.Test.YtkcpemkahkkcmaaBaseB03
import Derived.Deep.Slices
import Derived.Test.YtkcpemkahkkcmaaGtF
import Derived.Test.YtkcpemkahkkcmaaBaseB20
import Derived.Test.YtkcpemkahkkcmaaBaseB09
namespace Go.Proofs.Ytkcpemkahkkcmaa
open Go.RowKit
def G1u (w : World) (b : Nat) (g : Gt) (p : Nat) (u : Int) (w' : World) : Prop := w'.cell? ⟨b, 0, none⟩ = some (.int .i64 g.k) ∧ w'.cell? ⟨b, 1, none⟩ = some (.int .i64 g.a) ∧ w'.cell? ⟨b, 2, none⟩ = some (.int .i64 g.b) ∧ w'.cell? ⟨b, 3, none⟩ = some (.int .i64 g.c) ∧ w'.cell? ⟨p, 0, none⟩ = some (.int .i64 u) ∧ b < w'.heap.size ∧ p < w'.heap.size ∧ Below w.heap.size w w'
theorem G1u.drew {w w' : World} {b p : Nat} {g : Gt} {u : Int} (h : G1u w b g p u w') : G1u w b g p u w'.drew := let ⟨b0, b1, b2, b3, b4, z, y, l⟩ := h; ⟨b0, b1, b2, b3, b4, z, y, l.drew⟩
theorem G1u.below {w w1 w2 : World} {b p : Nat} {g : Gt} {u : Int} (h : G1u w b g p u w1) (hb : Below w1.heap.size w1 w2) : G1u w b g p u w2 :=
  let ⟨b0, b1, b2, b3, b4, z, y, l⟩ := h; ⟨cell_below b0 hb z, cell_below b1 hb z, cell_below b2 hb z, cell_below b3 hb z, cell_below b4 hb y, Nat.lt_of_lt_of_le z hb.size, Nat.lt_of_lt_of_le y hb.size, below_up l hb l.size⟩
attribute [local irreducible] World.cell?
set_option maxRecDepth 100000 in
set_option maxHeartbeats 3200000 in
theorem iturn1 (k : Int) (A B C i : Nat) (u : Int) (p : Nat) (Q : Dw) (w : World) (hA : A < 4) (_ : B < 4) (_ : C < 4) (hi : i < 16) (hp : w.heap[p]? = some (.cells #[.int .i64 u] 3 (0, 0))) (hQ : dPh (IntKind.i64.wrap (u * bI (bitN i A))) = Q) :
    Calls Try.prog 177 #[(.agg #[.int .i64 ((Gt.mk k A B C)).k, .int .i64 ((Gt.mk k A B C)).a, .int .i64 ((Gt.mk k A B C)).b, .int .i64 ((Gt.mk k A B C)).c]), .int .i64 i, .pointer (some ⟨p, 0, none⟩)] w fun e w' => ∃ v, e = .returned v ∧ contE.Sl w' w.heap.size v [(i, Q)] ∧ Below w.heap.size w w' := by
  have HX := Lib.hid (heap_alloc_new w (.cells #[.int .i64 ((Gt.mk k A B C)).k, .int .i64 ((Gt.mk k A B C)).a, .int .i64 ((Gt.mk k A B C)).b, .int .i64 ((Gt.mk k A B C)).c] 66))
  obtain ⟨c0, c1, c2, c3⟩ := blk_cells HX.out
  have c4 := cell_at (alloc_blk (.cells #[.int .i64 ((Gt.mk k A B C)).k, .int .i64 ((Gt.mk k A B C)).a, .int .i64 ((Gt.mk k A B C)).b, .int .i64 ((Gt.mk k A B C)).c] 66) hp) 0 _ rfl
  have hpl := lt_of_block (alloc_blk (.cells #[.int .i64 ((Gt.mk k A B C)).k, .int .i64 ((Gt.mk k A B C)).a, .int .i64 ((Gt.mk k A B C)).b, .int .i64 ((Gt.mk k A B C)).c] 66) hp)
  have hS : G1u w w.heap.size (Gt.mk k A B C) p u (w.alloc (.cells #[.int .i64 ((Gt.mk k A B C)).k, .int .i64 ((Gt.mk k A B C)).a, .int .i64 ((Gt.mk k A B C)).b, .int .i64 ((Gt.mk k A B C)).c] 66)) := ⟨c0, c1, c2, c3, c4, by simp, hpl, by go_grown⟩
  have Hb0 := Lib.hid (show Below w.heap.size w (w.alloc (.cells #[.int .i64 ((Gt.mk k A B C)).k, .int .i64 ((Gt.mk k A B C)).a, .int .i64 ((Gt.mk k A B C)).b, .int .i64 ((Gt.mk k A B C)).c] 66)) by go_grown)
  have Hba := Lib.hid (fun W => ibit (i := i) (q := A) hi hA rfl W)
  clear hp
  generalize bI (bitN i A) = ba at *
  go_enter Try.func177, Try.ntmps177
  go_upto_region 1 with fail
  go_region_held3 (fun w' => w'.cell? ⟨w.heap.size, 0, none⟩ = some (.int .i64 k) ∧ w'.cell? ⟨w.heap.size, 1, none⟩ = some (.int .i64 (A : Int)) ∧ w'.cell? ⟨w.heap.size, 2, none⟩ = some (.int .i64 (B : Int)) ∧ w'.cell? ⟨w.heap.size, 3, none⟩ = some (.int .i64 (C : Int)) ∧ w'.cell? ⟨p, 0, none⟩ = some (.int .i64 u) ∧ w.heap.size < w'.heap.size ∧ p < w'.heap.size ∧ Below w.heap.size w w') (first | (show G1u w w.heap.size (Gt.mk k A B C) p u _; (with_reducible exact hS.drew)) | (show G1u w w.heap.size (Gt.mk k A B C) p u _; (with_reducible refine G1u.below ?_ hbR); first | assumption | exact ⟨by assumption, by assumption, by assumption, by assumption, by assumption, by assumption, by assumption, by assumption⟩))
    (first | (go_at_call 86; refine (Hba.out _).mono ?_; rintro e wR ⟨rfl, rfl⟩) | (go_at_call 176; refine (imove (J := i) (P := Q) (by first | assumption | rfl) (by first | assumption | rfl) _).mono ?_; rintro e wQ ⟨v, rfl, hd, hbM⟩; have HD := Lib.hid hd; have hbR := hbM))
  all_goals
    have Hd := Lib.hid (HD.out.mono (C := w.heap.size) (by simp))
    have Hb1 := Lib.hid (below_nx Hb0.out.drew hbM)
  all_goals go_wp2_with fail
  all_goals go_ret
  all_goals exact ⟨_, rfl, Hd.out, Hb1.out⟩
set_option maxRecDepth 100000 in
set_option maxHeartbeats 3200000 in
theorem iexch (k : Int) (A B C i : Nat) (w : World) (hA : A < 4) (hB : B < 4) (_ : C < 4) (hi : i < 16) :
    Calls Try.prog 153 #[(.agg #[.int .i64 ((Gt.mk k A B C)).k, .int .i64 ((Gt.mk k A B C)).a, .int .i64 ((Gt.mk k A B C)).b, .int .i64 ((Gt.mk k A B C)).c]), .int .i64 i] w fun e w' => ∃ v, e = .returned v ∧ contE.Sl w' w.heap.size v [(if bitN i A != bitN i B then flipN (flipN i A) B else i, dPh 0)] ∧ Below w.heap.size w w' := by
  have HX := Lib.hid (heap_alloc_new w (.cells #[.int .i64 ((Gt.mk k A B C)).k, .int .i64 ((Gt.mk k A B C)).a, .int .i64 ((Gt.mk k A B C)).b, .int .i64 ((Gt.mk k A B C)).c] 66))
  obtain ⟨c0, c1, c2, c3⟩ := blk_cells HX.out
  have hS : G1 w w.heap.size (Gt.mk k A B C) (w.alloc (.cells #[.int .i64 ((Gt.mk k A B C)).k, .int .i64 ((Gt.mk k A B C)).a, .int .i64 ((Gt.mk k A B C)).b, .int .i64 ((Gt.mk k A B C)).c] 66)) := ⟨c0, c1, c2, c3, by simp, by go_grown⟩
  have Hb0 := Lib.hid (show Below w.heap.size w (w.alloc (.cells #[.int .i64 ((Gt.mk k A B C)).k, .int .i64 ((Gt.mk k A B C)).a, .int .i64 ((Gt.mk k A B C)).b, .int .i64 ((Gt.mk k A B C)).c] 66)) by go_grown)
  have Hba := Lib.hid (fun W => ibit (i := i) (q := A) hi hA rfl W)
  have Hbb := Lib.hid (fun W => ibit (i := i) (q := B) hi hB rfl W)
  have hx := exW ⟨i, hi⟩ (bitN i A) (bitN i B) ⟨A, hA⟩ ⟨B, hB⟩
  generalize (if (bitN i A != bitN i B) = true then flipN (flipN i A) B else i) = j at *
  obtain ⟨P, hP⟩ : ∃ P, dPh 0 = P := ⟨_, rfl⟩
  rw [hP]
  generalize bI (bitN i A) = ba at *
  generalize bI (bitN i B) = bb at *
  go_enter Try.func153, Try.ntmps153
  go_upto_region 1 with fail
  go_region_held3 (fun w' => w'.cell? ⟨w.heap.size, 0, none⟩ = some (.int .i64 k) ∧ w'.cell? ⟨w.heap.size, 1, none⟩ = some (.int .i64 (A : Int)) ∧ w'.cell? ⟨w.heap.size, 2, none⟩ = some (.int .i64 (B : Int)) ∧ w'.cell? ⟨w.heap.size, 3, none⟩ = some (.int .i64 (C : Int)) ∧ w.heap.size < w'.heap.size ∧ Below w.heap.size w w') (first | (show G1 w w.heap.size (Gt.mk k A B C) _; (with_reducible exact hS.drew)) | (show G1 w w.heap.size (Gt.mk k A B C) _; (with_reducible refine G1.below ?_ hbR); first | assumption | exact ⟨by assumption, by assumption, by assumption, by assumption, by assumption, by assumption⟩))
    (first | (go_at_call 86; refine (Hba.out _).mono ?_; rintro e wR ⟨rfl, rfl⟩) | (go_at_call 86; refine (Hbb.out _).mono ?_; rintro e wR ⟨rfl, rfl⟩))
  have hS := hS.drew
  go_upto_region 2 with fail
  go_region_held3 (fun w' => w'.cell? ⟨w.heap.size, 0, none⟩ = some (.int .i64 k) ∧ w'.cell? ⟨w.heap.size, 1, none⟩ = some (.int .i64 (A : Int)) ∧ w'.cell? ⟨w.heap.size, 2, none⟩ = some (.int .i64 (B : Int)) ∧ w'.cell? ⟨w.heap.size, 3, none⟩ = some (.int .i64 (C : Int)) ∧ w.heap.size < w'.heap.size ∧ Below w.heap.size w w') (first | (show G1 w w.heap.size (Gt.mk k A B C) _; (with_reducible exact hS.drew)) | (show G1 w w.heap.size (Gt.mk k A B C) _; (with_reducible refine G1.below ?_ hbR); first | assumption | exact ⟨by assumption, by assumption, by assumption, by assumption, by assumption, by assumption⟩))
    (first | (go_at_call 176; refine (imove (J := j) (P := P) (by first | assumption | rfl) (by first | assumption | rfl) _).mono ?_; rintro e wQ ⟨v, rfl, hd, hbM⟩; have HD := Lib.hid hd; have hbR := hbM))
  all_goals
    have Hd := Lib.hid (HD.out.mono (C := w.heap.size) (by simp))
    have Hb1 := Lib.hid (below_nx Hb0.out.drew.drew hbM)
  all_goals go_wp2_with fail
  all_goals go_ret
  all_goals exact ⟨_, rfl, Hd.out, Hb1.out⟩
end Go.Proofs.Ytkcpemkahkkcmaa
namespace Go.Proofs.Ytkcpemkahkkcmaa
end Go.Proofs.Ytkcpemkahkkcmaa
namespace Go.Proofs.Ytkcpemkahkkcmaa
open Go.ChangeShapes Go.WideShapes Go.ChangeAt Go.RowKit Go.Lib Go.Joins
theorem cellsLg : Try.prog.cellsOf 62 = 4 := by kernel_rfl
set_option maxRecDepth 100000 in
set_option maxHeartbeats 400000 in
theorem gt_cells {H : Type} {enc : TypeId × Value → H} {w : World} {base : Nat} {spare : Nat → Bool} {held : Bool} {fuel : Nat} {cs : List Value} {y : DataW H × List MemPlace}
    (h : DataW.trod enc Try.prog w base spare held fuel 62 cs = some y) : ∃ x : Gt, cs = gtE.fl x := by
  obtain ⟨z0, z1, z2, z3, m, _, hl, g0, g1, g2, g3⟩ := trod_struct4 Try.underlying62 h
  match cs, hl.trans cellsLg with
  | [c0, c1, c2, c3], _ =>
    simp [cells_in] at g0 g1 g2 g3
    obtain ⟨a, ea, -, -⟩ := DataW.trod_int Try.underlying3 g0
    obtain ⟨b, eb, -, -⟩ := DataW.trod_int Try.underlying3 g1
    obtain ⟨c, ec, -, -⟩ := DataW.trod_int Try.underlying3 g2
    obtain ⟨e, ed, -, -⟩ := DataW.trod_int Try.underlying3 g3
    obtain rfl := List.head_eq_of_cons_eq ea
    obtain rfl := List.head_eq_of_cons_eq eb
    obtain rfl := List.head_eq_of_cons_eq ec
    obtain rfl := List.head_eq_of_cons_eq ed
    exact ⟨⟨a, b, c, e⟩, rfl⟩
set_option maxRecDepth 100000 in
set_option maxHeartbeats 400000 in
theorem open_gs {H : Type} {enc : TypeId × Value → H} {w : World} {spare : Nat → Bool} {held : Bool} {r : Reach} {b0 : Nat} {v : Value} {d : DataW H} {p : List MemPlace}
    (hv : Value.okWide Try.prog w r b0 71 v) (h : DataW.Trod enc Try.prog w 0 spare held 71 v d p) :
    ∃ a0 cap l, v = .slice a0 (List.length l) cap ∧ GsIn w w.heap.size a0 l := by
  obtain ⟨a0, len, cap, rfl⟩ := okWide_slice Try.underlying71 hv
  obtain ⟨fuel, hf⟩ := h
  rcases Deep.open_slice Try.underlying71 hf with ⟨hcs, _⟩ | ⟨x, l, c, m, n, D, Pl, hcs, _, hl, hm, hmm, _, hx⟩
  · simp [Value.cells] at hcs
    obtain ⟨rfl, rfl, rfl⟩ := hcs
    exact ⟨none, 0, [], rfl, Nat.zero_le _, fun h => absurd h (by simp)⟩
  · simp [Value.cells] at hcs
    obtain ⟨rfl, rfl, rfl⟩ := hcs
    have hlm : len ≤ m := by rw [hmm]; split <;> omega
    haveI : Inhabited Gt := ⟨⟨0, 0, 0, 0⟩⟩
    obtain ⟨X, hX⟩ := Deep.choose_lt (α := Gt) (p := fun i y => ∀ k, k < 4 → w.cell? ((x.add (i * 4)).add k) = (gtE.fl y)[k]?) (n := len) (fun i hi => by
      obtain ⟨cs', h1, h2⟩ := hx i (by omega)
      rw [cellsLg] at h1
      obtain ⟨_, _, h3⟩ := World.cells?_some h1
      obtain ⟨y, rfl⟩ := gt_cells h2
      exact ⟨y, h3⟩)
    have hlen : ((List.range len).map X).length = len := by simp
    refine ⟨some x, cap, (List.range len).map X, by rw [hlen], by rw [hlen]; omega, fun h0 => ?_⟩
    rw [hlen] at h0
    obtain ⟨b, off, spot⟩ := x
    have hc0 := hX 0 h0 0 (by omega)
    have e0 : ((⟨b, off, spot⟩ : Addr).add (0 * 4)).add 0 = ⟨b, off, spot⟩ := by simp [Addr.add]
    rw [e0] at hc0
    have hspot : spot = none := World.cell?_spot (v := .int .i64 (X 0).k) hc0
    subst hspot
    refine ⟨b, off, rfl, ?_, fun j y hy => ?_⟩
    · exact World.block_lt_of_cell? _ _ (show w.cell? ⟨b, off, none⟩ = some (.int .i64 (X 0).k) from hc0)
    · rw [List.getElem?_map] at hy
      have hj : j < len := by
        rcases Nat.lt_or_ge j len with h' | h'
        · exact h'
        · rw [List.getElem?_eq_none (by simpa using h')] at hy; cases hy
      rw [List.getElem?_range hj] at hy
      injection hy with hy
      have hY := hX j hj
      rw [hy] at hY
      have ha : ∀ k, (((⟨b, off, none⟩ : Addr).add (j * 4)).add k) = ⟨b, off + j * 4 + k, none⟩ := by
        intro k
        unfold Addr.add
        by_cases h1 : j * 4 = 0
        · by_cases h2 : k = 0
          · simp [h1, h2]
          · simp [h1, h2]
        · by_cases h2 : k = 0
          · simp [h1, h2]
          · simp [h1, h2]
      have h5 := fun k hk => (congrArg w.cell? (ha k)).symm.trans (hY k hk)
      exact ⟨h5 0 (by omega), h5 1 (by omega), h5 2 (by omega), h5 3 (by omega)⟩
end Go.Proofs.Ytkcpemkahkkcmaa
namespace Go.Proofs.Ytkcpemkahkkcmaa
open Go.RowKit
attribute [local irreducible] World.cell?
end Go.Proofs.Ytkcpemkahkkcmaa
namespace Go.Proofs.Ytkcpemkahkkcmaa
open Go.RowKit
theorem infoG2 : (Try.prog.info? 66).map (fun i => (i.zero, i.size, i.bytes)) = some (some (.agg #[.int .i64 0, .int .i64 0, .int .i64 0, .int .i64 0]), 4, 32) := by kernel_rfl
theorem own_lower {w : World} {B C : Nat} {e : TypeId} {size : Nat} {v : Value} {n : Nat} {xs : List Value} (h : w.ownsRow B e size v n xs) (hC : C ≤ B) : w.ownsRow C e size v n xs := by
  obtain ⟨h1, h2⟩ := h
  refine ⟨h1, ?_⟩
  rcases h2 with h2 | ⟨g, cap, cur, a, b, c⟩
  · exact .inl h2
  · exact .inr ⟨g, cap, cur, a, Nat.le_trans hC b, c⟩
theorem basisL_le (n i : Int) : (basisL n i).length ≤ 16 ∧ Eb (basisL n i) := by
  unfold basisL
  split
  · rename_i h
    obtain ⟨h0, h1, -⟩ := h
    refine ⟨?_, fun x hx => ?_⟩
    · rw [List.length_set, List.length_replicate]
      rcases (show n = 1 ∨ n = 2 ∨ n = 3 ∨ n = 4 by omega) with rfl | rfl | rfl | rfl <;> decide
    · rcases List.mem_or_eq_of_mem_set hx with hx | rfl
      · rw [List.eq_of_mem_replicate hx]; decide
      · decide
  · exact ⟨Nat.zero_le _, fun x hx => by cases hx⟩
attribute [local irreducible] World.cell?
set_option maxRecDepth 100000 in
set_option maxHeartbeats 6400000 in
theorem drawAgs (a0 : Option Addr) (len cap : Nat) (w : World) (hcode : CodeAt w w.heap.size a0 len) :
    Calls Try.prog 39 #[.slice a0 len cap] w fun e w' => (∃ p v L l, e = .returned (.tuple #[p, v]) ∧ List.length L ≤ 9 ∧ List.length l ≤ 16 ∧ Eb l ∧ gtE.Sl w' w.heap.size p L ∧ DSl w' w.heap.size v l) ∧ Below w.heap.size w w' := by
  obtain ⟨i0, hi, hz0, hz1, hz2⟩ := info_parts infoG2
  have Hcode := Lib.hid hcode
  clear hcode
  go_enter Try.func39, Try.ntmps39
  go_wp2_with fail
  refine (new_any a0 len cap _ Hcode.out).mono ?_
  rintro e w1 ⟨rfl, hc1, hb1, hzz1⟩
  have Hc1 := Lib.hid hc1
  have Hb1 := Lib.hid hb1
  have hs1 := hb1.size
  clear hc1 hb1
  go_wp2_with fail
  refine (below_any w.heap.size 3 _ Hc1.out (by omega) (by omega)).mono ?_
  rintro e w2 ⟨⟨x, x0, x1, rfl⟩, hc2, ho2⟩
  obtain ⟨k, rfl⟩ : ∃ k : Nat, x = k := ⟨x.toNat, by omega⟩
  have hs2 := ho2.size
  have Hc2 := Lib.hid hc2
  have Hb2 := Lib.hid (own_below Hb1.out ho2 (by omega))
  clear hc2 ho2 Hc1 Hb1
  have HR := rightO_any w.heap.size (1 + k) 8 w2 Hc2.out (by omega) (by omega) (by omega) (by omega)
  rw [show ((1 + k : Nat) : Int) = 1 + (k : Int) by simp] at HR
  have HR := Lib.hid HR
  go_wp2_with fail
  refine HR.out.mono ?_
  rintro e w3 ⟨⟨p, L, rfl, hL, -, hown⟩, hc3, ho3⟩
  have hs3 := ho3.size
  obtain ⟨pp, pc, rfl⟩ : ∃ a c, p = .slice a L.length c := by
    rcases hown.2 with ⟨rfl, h⟩ | ⟨g, cap, cur, rfl, _⟩
    · exact ⟨none, 0, by rw [h]⟩
    · exact ⟨_, _, rfl⟩
  have Hown := Lib.hid hown
  have hfd : ∀ (n : Int) (W : World), (Instr.field 99 (.agg #[.int .i64 n, .slice pp L.length pc]) 1).run Try.prog W = .ok (.slice pp L.length pc) W := fun _ _ => by kernel_rfl
  have Hc3 := Lib.hid hc3
  have Hb3 := Lib.hid (own_below Hb2.out ho3 (by omega))
  clear hc3 ho3 Hc2 Hb2 hown HR
  go_wp2_with fail
  refine (once_any w.heap.size 8 _ Hc3.out (by omega) (by omega)).mono ?_
  rintro e w4 ⟨⟨t, rfl⟩, hc4, ho4⟩
  have hs4 := ho4.size
  have Hown4 := Lib.hid (row_own Hown.out ho4 (by omega))
  have Hc4 := Lib.hid hc4
  have Hb4 := Lib.hid (own_below Hb3.out ho4 (by omega))
  clear hc4 ho4 Hc3 Hb3 Hown
  obtain ⟨N, hN⟩ : ∃ N, N = 2 ^ (1 + k) := ⟨_, rfl⟩
  have hN8 : 2 ≤ N ∧ N ≤ 8 := by rw [hN]; rcases (show k = 0 ∨ k = 1 ∨ k = 2 by omega) with rfl | rfl | rfl <;> decide
  have hw : wrap64 (2 ^ (1 + k)) = (N : Int) := by rw [hN]; rcases (show k = 0 ∨ k = 1 ∨ k = 2 by omega) with rfl | rfl | rfl <;> decide +kernel
  clear hN
  cases t with
  | false =>
    have HL := Lib.hid ((Enc.Sl.of_own (E := gtE) (l := L) Hown4.out).mono (show w.heap.size + 1 ≤ w2.heap.size + 2 by omega))
    have Hc := Lib.hid Hc4.out
    have Hb := Lib.hid Hb4.out
    clear Hown4 Hc4 Hb4
    go_wp2_with fail
    clear hw
    refine (below_any w.heap.size (N : Int) _ Hc.out (by omega) (by omega)).mono ?_
    rintro e w6 ⟨⟨y, y0, y1, rfl⟩, hc6, ho6⟩
    have hs6 := ho6.size
    have HL := Lib.hid (HL.out.own ho6 (by omega))
    have Hc := Lib.hid hc6
    have Hb := Lib.hid (own_below Hb.out ho6 (by omega))
    clear hc6 ho6
    go_wp2_with fail
    refine (sbasis (1 + (k : Int)) y _).mono ?_
    rintro e w7 ⟨v3, rfl, hd7, hb7⟩
    have hs7 := hb7.size
    have HL := Lib.hid (HL.out.below hb7)
    have Hc := Lib.hid (Hc.out.below hb7 (by omega))
    have Hb := Lib.hid (below_nx Hb.out hb7)
    have HV := Lib.hid hd7
    clear hb7 hd7
    have hle := basisL_le (1 + (k : Int)) y
    generalize basisL (1 + (k : Int)) y = l3 at *
    obtain ⟨hl3, he3⟩ := hle
    have He3 := Lib.hid he3
    clear he3
    go_wp2_with fail
    refine (once_any w.heap.size 3 _ Hc.out (by omega) (by omega)).mono ?_
    rintro e w8 ⟨⟨t1, rfl⟩, hc8, ho8⟩
    have hs8 := ho8.size
    have HL := Lib.hid (HL.out.own ho8 (by omega))
    have HV := Lib.hid (HV.out.own ho8 (by omega))
    have Hc := Lib.hid hc8
    have Hb := Lib.hid (own_below Hb.out ho8 (by omega))
    clear hc8 ho8
    cases t1 with
    | false =>
      go_wp2_with fail
      refine (once_any w.heap.size 12 _ Hc.out (by omega) (by omega)).mono ?_
      rintro e w9 ⟨⟨t2, rfl⟩, hc9, ho9⟩
      have hs9 := ho9.size
      have HL := Lib.hid (HL.out.own ho9 (by omega))
      have HV := Lib.hid (HV.out.own ho9 (by omega))
      have Hc := Lib.hid hc9
      have Hb := Lib.hid (own_below Hb.out ho9 (by omega))
      clear hc9 ho9
      cases t2 with
      | false =>
        go_wp2_with fail
        go_returns
        exact ⟨⟨_, v3, L, l3, rfl, (by omega), hl3, He3.out, HL.out.mono (by omega), HV.out.mono (by omega)⟩, Hb.out⟩
      | true =>
        go_wp2_with fail
        refine (bentS w.heap.size _ Hc.out (by omega)).mono ?_
        rintro e w10 ⟨⟨v5, l5, rfl, hl5, he5, hd10⟩, hc10, ho10⟩
        have hs10 := ho10.size
        have HL := Lib.hid (HL.out.own ho10 (by omega))
        have Hc := Lib.hid hc10
        have Hb := Lib.hid (own_below Hb.out ho10 (by omega))
        have HV := Lib.hid hd10
        clear hc10 ho10 hd10
        go_wp2_with fail
        go_returns
        exact ⟨⟨_, v5, L, l5, rfl, (by omega), (by omega), he5, HL.out.mono (by omega), HV.out.mono (by omega)⟩, Hb.out⟩
    | true =>
      go_wp2_with fail
      refine (vec_any w.heap.size (1 + (k : Int)) _ Hc.out (by omega) (by omega) (by omega)).mono ?_
      rintro e w11 ⟨⟨v4, l4, rfl, -, hl4, he4, hd11⟩, hc11, ho11⟩
      have hs11 := ho11.size
      have HL := Lib.hid (HL.out.own ho11 (by omega))
      have Hc := Lib.hid hc11
      have Hb := Lib.hid (own_below Hb.out ho11 (by omega))
      have HV := Lib.hid hd11
      clear hc11 ho11 hd11
      go_wp2_with fail
      refine (once_any w.heap.size 12 _ Hc.out (by omega) (by omega)).mono ?_
      rintro e w12 ⟨⟨t2, rfl⟩, hc12, ho12⟩
      have hs12 := ho12.size
      have HL := Lib.hid (HL.out.own ho12 (by omega))
      have HV := Lib.hid (HV.out.own ho12 (by omega))
      have Hc := Lib.hid hc12
      have Hb := Lib.hid (own_below Hb.out ho12 (by omega))
      clear hc12 ho12
      cases t2 with
      | false =>
        go_wp2_with fail
        go_returns
        exact ⟨⟨_, v4, L, l4, rfl, (by omega), (by omega), he4, HL.out.mono (by omega), HV.out.mono (by omega)⟩, Hb.out⟩
      | true =>
        go_wp2_with fail
        refine (bentS w.heap.size _ Hc.out (by omega)).mono ?_
        rintro e w13 ⟨⟨v5, l5, rfl, hl5, he5, hd13⟩, hc13, ho13⟩
        have hs13 := ho13.size
        have HL := Lib.hid (HL.out.own ho13 (by omega))
        have Hc := Lib.hid hc13
        have Hb := Lib.hid (own_below Hb.out ho13 (by omega))
        have HV := Lib.hid hd13
        clear hc13 ho13 hd13
        go_wp2_with fail
        go_returns
        exact ⟨⟨_, v5, L, l5, rfl, (by omega), (by omega), he5, HL.out.mono (by omega), HV.out.mono (by omega)⟩, Hb.out⟩
  | true =>
    have HG := bentG w.heap.size (1 + k) w4 Hc4.out (by omega) (by omega) (by omega)
    rw [show ((1 + k : Nat) : Int) = 1 + (k : Int) by simp] at HG
    have HG := Lib.hid HG
    go_wp2_with fail
    refine HG.out.mono ?_
    rintro e w5 ⟨⟨g, rfl, hgi⟩, hc5, ho5⟩
    have hs5 := ho5.size
    have Hown5 := Lib.hid (own_lower (C := w2.heap.size) (row_own Hown4.out ho5 (by omega)) (by omega))
    have Hc5 := Lib.hid hc5
    have Hb5 := Lib.hid (own_below Hb4.out ho5 (by omega))
    have Hnew := Lib.hid (Enc.new_row (E := gtE) w5 g #[.int .i64 g.k, .int .i64 g.a, .int .i64 g.b, .int .i64 g.c] rfl)
    clear hc5 ho5 Hc4 Hb4 Hown4 HG
    go_wp2_with (first
      | (at_builtin; refine wpList_append_own _ rfl _ _ 49 rfl w2.heap.size 66 i0 (.agg #[.int .i64 0, .int .i64 0, .int .i64 0, .int .i64 0]) 4 32 Try.underlying49 hi hz0 hz1 hz2 rfl (by decide) _ _ _ rfl (Hown5.out.alloc _) ⟨w5.heap.size, 0, none⟩ 1 1 (gtE.fl g) rfl rfl Hnew.out (gtE.one g) ?d3 ?d4 ?d5 ?_))
    case d3 => unfold maxLen; omega
    case d4 => omega
    case d5 => first | omega | (simp; omega)
    intro v' w6 hown' hgrow _
    have hz5 := hgrow.size
    simp at hz5
    rw [gtE.flat_snoc] at hown'
    have HL := Lib.hid ((Enc.Sl.of_own (E := gtE) (l := L ++ [g]) (by rw [List.length_append]; exact hown')).mono (show w.heap.size + 1 ≤ w2.heap.size by omega))
    have hbg : Below w2.heap.size w5 w6 := ((Below.refl _ _).alloc (by omega) (.cells #[.int .i64 g.k, .int .i64 g.a, .int .i64 g.b, .int .i64 g.c] 66)).grown hgrow (by simp; omega) (fun q hq => (Hown5.out.lt q hq).1)
    have Hc := Lib.hid (Hc5.out.below hbg (by omega))
    have Hb := Lib.hid (Hb5.out.trans (hbg.mono (by omega)))
    clear hown' hgrow hbg Hown5 Hc5 Hb5 Hnew
    go_wp2_with fail
    clear hw
    refine (below_any w.heap.size (N : Int) _ Hc.out (by omega) (by omega)).mono ?_
    rintro e w14 ⟨⟨y, y0, y1, rfl⟩, hc14, ho14⟩
    have hs14 := ho14.size
    have HL := Lib.hid (HL.out.own ho14 (by omega))
    have Hc := Lib.hid hc14
    have Hb := Lib.hid (own_below Hb.out ho14 (by omega))
    clear hc14 ho14
    go_wp2_with fail
    refine (sbasis (1 + (k : Int)) y _).mono ?_
    rintro e w15 ⟨v3, rfl, hd15, hb15⟩
    have hs15 := hb15.size
    have HL := Lib.hid (HL.out.below hb15)
    have Hc := Lib.hid (Hc.out.below hb15 (by omega))
    have Hb := Lib.hid (below_nx Hb.out hb15)
    have HV := Lib.hid hd15
    clear hb15 hd15
    have hle := basisL_le (1 + (k : Int)) y
    generalize basisL (1 + (k : Int)) y = l3 at *
    obtain ⟨hl3, he3⟩ := hle
    have He3 := Lib.hid he3
    clear he3
    go_wp2_with fail
    refine (once_any w.heap.size 3 _ Hc.out (by omega) (by omega)).mono ?_
    rintro e w16 ⟨⟨t1, rfl⟩, hc16, ho16⟩
    have hs16 := ho16.size
    have HL := Lib.hid (HL.out.own ho16 (by omega))
    have HV := Lib.hid (HV.out.own ho16 (by omega))
    have Hc := Lib.hid hc16
    have Hb := Lib.hid (own_below Hb.out ho16 (by omega))
    clear hc16 ho16
    cases t1 with
    | false =>
      go_wp2_with fail
      refine (once_any w.heap.size 12 _ Hc.out (by omega) (by omega)).mono ?_
      rintro e w17 ⟨⟨t2, rfl⟩, hc17, ho17⟩
      have hs17 := ho17.size
      have HL := Lib.hid (HL.out.own ho17 (by omega))
      have HV := Lib.hid (HV.out.own ho17 (by omega))
      have Hc := Lib.hid hc17
      have Hb := Lib.hid (own_below Hb.out ho17 (by omega))
      clear hc17 ho17
      cases t2 with
      | false =>
        go_wp2_with fail
        go_returns
        exact ⟨⟨_, v3, L ++ [g], l3, rfl, (by simp; omega), hl3, He3.out, HL.out.mono (by omega), HV.out.mono (by omega)⟩, Hb.out⟩
      | true =>
        go_wp2_with fail
        refine (bentS w.heap.size _ Hc.out (by omega)).mono ?_
        rintro e w18 ⟨⟨v5, l5, rfl, hl5, he5, hd18⟩, hc18, ho18⟩
        have hs18 := ho18.size
        have HL := Lib.hid (HL.out.own ho18 (by omega))
        have Hc := Lib.hid hc18
        have Hb := Lib.hid (own_below Hb.out ho18 (by omega))
        have HV := Lib.hid hd18
        clear hc18 ho18 hd18
        go_wp2_with fail
        go_returns
        exact ⟨⟨_, v5, L ++ [g], l5, rfl, (by simp; omega), (by omega), he5, HL.out.mono (by omega), HV.out.mono (by omega)⟩, Hb.out⟩
    | true =>
      go_wp2_with fail
      refine (vec_any w.heap.size (1 + (k : Int)) _ Hc.out (by omega) (by omega) (by omega)).mono ?_
      rintro e w19 ⟨⟨v4, l4, rfl, -, hl4, he4, hd19⟩, hc19, ho19⟩
      have hs19 := ho19.size
      have HL := Lib.hid (HL.out.own ho19 (by omega))
      have Hc := Lib.hid hc19
      have Hb := Lib.hid (own_below Hb.out ho19 (by omega))
      have HV := Lib.hid hd19
      clear hc19 ho19 hd19
      go_wp2_with fail
      refine (once_any w.heap.size 12 _ Hc.out (by omega) (by omega)).mono ?_
      rintro e w20 ⟨⟨t2, rfl⟩, hc20, ho20⟩
      have hs20 := ho20.size
      have HL := Lib.hid (HL.out.own ho20 (by omega))
      have HV := Lib.hid (HV.out.own ho20 (by omega))
      have Hc := Lib.hid hc20
      have Hb := Lib.hid (own_below Hb.out ho20 (by omega))
      clear hc20 ho20
      cases t2 with
      | false =>
        go_wp2_with fail
        go_returns
        exact ⟨⟨_, v4, L ++ [g], l4, rfl, (by simp; omega), (by omega), he4, HL.out.mono (by omega), HV.out.mono (by omega)⟩, Hb.out⟩
      | true =>
        go_wp2_with fail
        refine (bentS w.heap.size _ Hc.out (by omega)).mono ?_
        rintro e w21 ⟨⟨v5, l5, rfl, hl5, he5, hd21⟩, hc21, ho21⟩
        have hs21 := ho21.size
        have HL := Lib.hid (HL.out.own ho21 (by omega))
        have Hc := Lib.hid hc21
        have Hb := Lib.hid (own_below Hb.out ho21 (by omega))
        have HV := Lib.hid hd21
        clear hc21 ho21 hd21
        go_wp2_with fail
        go_returns
        exact ⟨⟨_, v5, L ++ [g], l5, rfl, (by simp; omega), (by omega), he5, HL.out.mono (by omega), HV.out.mono (by omega)⟩, Hb.out⟩
end Go.Proofs.Ytkcpemkahkkcmaa
