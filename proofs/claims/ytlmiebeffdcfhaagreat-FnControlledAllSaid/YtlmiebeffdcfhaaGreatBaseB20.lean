/- BaseB20: several of our texts in one: CpN CpR ApG CiS CiT CiL. -/
import Derived.Test.YtlmiebeffdcfhaaGreatBaseC02
import Derived.Test.YtlmiebeffdcfhaaGreatBaseB16
import Derived.Test.YtlmiebeffdcfhaaGreatBaseB19
import Derived.Test.YtlmiebeffdcfhaaGreatBaseC05
import Derived.Test.YtlmiebeffdcfhaaGreatBaseB10
import Derived.Test.YtlmiebeffdcfhaaGreatBaseB12
import Derived.Test.YtlmiebeffdcfhaaGreatBaseB15
import Derived.Test.YtlmiebeffdcfhaaGreatBaseB11
import Derived.Laws.StructEq
namespace Go.Proofs.YtlmiebeffdcfhaaGreat
/-- The numerators alone. -/
def nums (L : List (Nat × Dw)) : List (Nat × Dw) := L.map fun p => (p.1, (⟨p.2.n, 1⟩ : Dw))
/-- The root's power below a gate's numerators. -/
def scK (k : Int) : Nat := if k = 4 then 1 else 0
end Go.Proofs.YtlmiebeffdcfhaaGreat
namespace Go.Proofs.YtlmiebeffdcfhaaGreat
theorem gk1 (A B C i : Nat) : goesL 1 A B C i = [(flipN i A, dPh 0)] := rfl
theorem gk2 (A B C i : Nat) : goesL 2 A B C i = [(flipN i A, dPh (if bitN i A then 6 else 2))] := rfl
theorem gk3 (A B C i : Nat) : goesL 3 A B C i = [(i, if bitN i A then dPh 4 else dPh 0)] := rfl
theorem gk4 (A B C i : Nat) : goesL 4 A B C i = [(lowN i A, isV 1), (flipN (lowN i A) A, if bitN i A then dNegV (isV 1) else isV 1)] := rfl
theorem gk5 (A B C i : Nat) : goesL 5 A B C i = [(i, if bitN i A then dPh 2 else dPh 0)] := rfl
theorem gk6 (A B C i : Nat) : goesL 6 A B C i = [(i, if bitN i A then dPh 6 else dPh 0)] := rfl
theorem gk7 (A B C i : Nat) : goesL 7 A B C i = [(i, if bitN i A then dPh 1 else dPh 0)] := rfl
theorem gk8 (A B C i : Nat) : goesL 8 A B C i = [(i, if bitN i A then dPh 7 else dPh 0)] := rfl
theorem gk9 (A B C i : Nat) : goesL 9 A B C i = [(if bitN i A then flipN i B else i, dPh 0)] := rfl
theorem gk10 (A B C i : Nat) : goesL 10 A B C i = [(i, if (bitN i A && bitN i B) then dPh 4 else dPh 0)] := rfl
theorem gk11 (A B C i : Nat) : goesL 11 A B C i = [(if bitN i A != bitN i B then flipN (flipN i A) B else i, dPh 0)] := rfl
theorem gk12 (A B C i : Nat) : goesL 12 A B C i = [(if (bitN i A && bitN i B) then flipN i C else i, dPh 0)] := rfl
end Go.Proofs.YtlmiebeffdcfhaaGreat
namespace Go.Proofs.YtlmiebeffdcfhaaGreat
open Go.RowKit
theorem GsIn.empty {w : World} {B : Nat} {a : Option Addr} {l : List Gt} (h : l.length = 0) : GsIn w B a l := ⟨by omega, fun h0 => absurd h0 (by omega)⟩
theorem gmL_step {g : Gt} {n j : Nat} (hj : j < 2 ^ n) : (gmL g n).take (j + 1) = (gmL g n).take j ++ [agV g (basisL n j)] := by
  rw [List.take_add_one, gmL, Int.toNat_natCast, List.getElem?_map, List.getElem?_range hj]
  rfl
attribute [local irreducible] World.cell?
set_option maxRecDepth 100000 in
set_option maxHeartbeats 3200000 in
theorem smatG (g : Gt) (n : Int) (w : World) (n0 : -9223372036854775808 ≤ n) (n1 : n ≤ 9223372036854775807) :
    Calls Tryz.prog 11 #[(.agg #[.int .i64 g.k, .int .i64 g.a, .int .i64 g.b, .int .i64 g.c]), .int .i64 n] w fun e w' => (∃ r, e = .returned (.tuple #[r, .bool (gtB g n)]) ∧ DSM w' w.heap.size w'.heap.size r (gmM g n)) ∧ Below w.heap.size w w' := by
  obtain ⟨i0, hi, hz0, hz1, hz2⟩ := info_parts infoDs
  have H1 := Lib.hid (fun W => svalidG g n W)
  cases hg : gtB g n with
  | false =>
    rw [hg] at H1
    rw [show gmM g n = [] from if_neg (by rw [hg]; decide)]
    clear hg
    have HGa := Lib.hid (heap_alloc_new w (.cells #[.int .i64 g.k, .int .i64 g.a, .int .i64 g.b, .int .i64 g.c] 25))
    obtain ⟨c0, c1, c2, c3⟩ := blk_cells HGa.out
    go_enter Tryz.func11, Tryz.ntmps11
    go_wp2_with fail
    refine (H1.out _).mono ?_
    rintro e w1 ⟨rfl, hb1⟩
    have Hb1 := Lib.hid (below_up (B := w.heap.size) (w := w) (by go_grown) hb1 (by simp))
    have hs1 := Hb1.out.size
    clear hb1 c0 c1 c2 c3
    go_wp2_with fail
    go_returns
    exact ⟨⟨_, rfl, DSM.nil⟩, by have := Hb1.out; go_grown⟩
  | true =>
    rw [hg] at H1
    rw [show gmM g n = colsM (gmL g n) from if_pos hg]
    obtain ⟨h1, h4⟩ := (gtB_parts hg).1
    obtain ⟨m, rfl⟩ : ∃ m : Nat, n = m := ⟨n.toNat, by omega⟩
    obtain ⟨N, hN⟩ : ∃ N, N = 2 ^ m := ⟨_, rfl⟩
    have hN16 : 2 ≤ N ∧ N ≤ 16 := by rw [hN]; rcases (show m = 1 ∨ m = 2 ∨ m = 3 ∨ m = 4 by omega) with rfl | rfl | rfl | rfl <;> decide
    have hw : wrap64 (2 ^ m) = (N : Int) := by rw [hN]; rcases (show m = 1 ∨ m = 2 ∨ m = 3 ∨ m = 4 by omega) with rfl | rfl | rfl | rfl <;> decide +kernel
    have Hbs := Lib.hid (fun (j : Nat) W => sbasis m j W)
    have Hbl := Lib.hid (fun (j : Nat) (h : j < N) => (basis_len (n := m) (j := j) (by omega) (by omega) (by rw [← hN]; exact h)).trans hN.symm)
    have Hap := Lib.hid (fun (j : Nat) (hj : j < N) D (u : Value) W (h : DSl W D u (basisL m j)) => sapG D g u (basisL m j) W h (by rw [Hbl.out j hj]; omega))
    have Hst := Lib.hid (fun (j : Nat) (hj : j < N) => gmL_step (g := g) (n := m) (j := j) (by rw [← hN]; exact hj))
    have hcl : (gmL g m).length = N := by rw [gmL_len, Int.toNat_natCast, hN]
    have Hcl := Lib.hid hcl
    have HC := Lib.hid (fun D E c W (h : DSM W D E c (gmL g m)) => scolumns D E c (gmL g m) W h (fun r hr => by rw [gmL_rows hg r hr, gmL_len]; exact Nat.le_refl _) (by omega))
    generalize gmL g m = M at *
    clear hN hg hcl
    have HGa := Lib.hid (heap_alloc_new w (.cells #[.int .i64 g.k, .int .i64 g.a, .int .i64 g.b, .int .i64 g.c] 25))
    obtain ⟨c0, c1, c2, c3⟩ := blk_cells HGa.out
    go_enter Tryz.func11, Tryz.ntmps11
    go_wp2_with fail
    refine (H1.out _).mono ?_
    rintro e w0 ⟨rfl, hb0⟩
    have hza : (w.alloc (.cells #[.int .i64 g.k, .int .i64 g.a, .int .i64 g.b, .int .i64 g.c] 25)).heap.size = w.heap.size + 1 := by simp
    have HG0 := Lib.hid (below_blk hb0 (lt_of_block HGa.out) HGa.out)
    have Hb0 := Lib.hid (below_up (B := w.heap.size) (w := w) (by go_grown) hb0 (by simp))
    have hs0 := hb0.size
    rw [hza] at hs0
    clear hb0 c0 c1 c2 c3 HGa
    go_wp2_with fail
    go_loopg [6, 7] N (fun m out i wr => ∃ (j : Nat) (vs : List Value), m = N - j ∧ j ≤ N ∧ i = .int .i64 j ∧ Hid (wr.ownsRow w0.heap.size 59 1 out j vs) ∧ Hid (RwS wr w0.heap.size wr.heap.size vs (M.take j)) ∧ Hid (wr.heap[w.heap.size]? = some (.cells #[.int .i64 g.k, .int .i64 g.a, .int .i64 g.b, .int .i64 g.c] 25 (0, 0))) ∧ Hid (Below w.heap.size w wr) ∧ w0.heap.size < wr.heap.size)
    case atStart => exact ⟨0, [], rfl, Nat.zero_le _, rfl, ownM_new rfl, RwS.nil, alloc_blk _ HG0.out, Hb0.out.alloc (by omega) _, by simp⟩
    case round =>
      obtain ⟨j, vs, rfl, hj, rfl, Hown, Hrows, HGr, Hb, hsz⟩ := hrel
      have hs := Hb.out.size
      by_cases hlt : j < N
      · have hjl : (j : Int) < N := by omega
        have Hc := Lib.hid (fun W => Hbs.out j W)
        have Ha := Lib.hid (fun D u W => Hap.out j hlt D u W)
        have Hstp := Lib.hid (Hst.out j hlt)
        generalize agB g (basisL m j) = t at *
        generalize agV g (basisL m j) = r at *
        generalize basisL m j = bl at *
        obtain ⟨c0, c1, c2, c3⟩ := blk_cells HGr.out
        have hgl := lt_of_block HGr.out
        have hS : G1 w w.heap.size g wr := ⟨c0, c1, c2, c3, hgl, Hb.out⟩
        have HgB := Lib.hid HGr.out
        clear c0 c1 c2 c3
        go_upto_region 7 with fail
        go_region_held3 (fun w' => w'.cell? ⟨w.heap.size, 0, none⟩ = some (.int .i64 g.k) ∧ w'.cell? ⟨w.heap.size, 1, none⟩ = some (.int .i64 g.a) ∧ w'.cell? ⟨w.heap.size, 2, none⟩ = some (.int .i64 g.b) ∧ w'.cell? ⟨w.heap.size, 3, none⟩ = some (.int .i64 g.c) ∧ w.heap.size < w'.heap.size ∧ Below w.heap.size w w') (first | (show G1 w w.heap.size g _; (with_reducible exact hS.drew)) | (show G1 w w.heap.size g _; (with_reducible refine G1.below ?_ hbR); first | assumption | exact ⟨by assumption, by assumption, by assumption, by assumption, by assumption, by assumption⟩))
          (first
            | (go_at_call 36; (refine (Hc.out _).mono ?_); rintro e wR ⟨cR, rfl, hdR, hbR⟩; have HcR := Lib.hid hdR; have HbR := Lib.hid hbR)
            | (go_at_call 35; (refine (Ha.out _ _ _ HcR.out).mono ?_); rintro e wQ ⟨⟨qR, rfl, hdq⟩, hbR⟩; have HqR := Lib.hid hdq; have HbQ := Lib.hid hbR))
        all_goals
          have hsR := HbR.out.size
          have hsQ := HbQ.out.size
          have hsd : wr.drew.heap.size = wr.heap.size := rfl
          have Hb3 := Lib.hid (below_up Hb.out.drew HbR.out (by omega))
          have Hown3 := Lib.hid (row_below Hown.out.drew HbR.out)
          have Hrows3 := Lib.hid (((show RwS wr.drew w0.heap.size wr.heap.size vs (M.take j) from Hrows.out).block fun k _ _ hk => HbR.out.block k hk).mono (Nat.le_refl _) hsR)
          have HG3 := Lib.hid (below_blk HbR.out (show w.heap.size < wr.drew.heap.size by omega) (show wr.drew.heap[w.heap.size]? = _ from HgB.out))
          have hs3 := Hb3.out.size
          have Hown4 := Lib.hid (row_below Hown3.out HbQ.out)
          have Hrows4 := Lib.hid (Hrows3.out.upto.snoc HqR.out.upto (by omega) hsQ fun k _ _ hk => HbQ.out.block k hk)
          have Hb4 := Lib.hid (below_up Hb3.out HbQ.out hs3)
          have HG4 := Lib.hid (below_blk HbQ.out (lt_of_block HG3.out) HG3.out)
          have hs4 := Hb4.out.size
          obtain ⟨p, pc, rfl, -, -⟩ := HqR.out
          clear Hown3 Hrows3 Hb3 HG3 Hown Hrows Hb HGr hS HqR HcR
          rw [← Hstp.out] at Hrows4
          go_wp2_with (first
            | (at_builtin; refine wpList_append_own _ rfl _ _ 32 rfl w0.heap.size 59 i0 (.slice none 0 0) 1 24 Tryz.underlying32 hi hz0 hz1 hz2 rfl (by decide) _ _ _ rfl (Hown4.out.alloc _) ⟨wQ.heap.size, 0, none⟩ 1 1 [.slice p r.length pc] rfl rfl (slice_new _ _ _) (by intro u hu; simp at hu; subst hu; rfl) ?d3 ?d4 ?d5 ?_))
          case d3 => unfold maxLen; omega
          case d4 => omega
          case d5 => first | omega | (simp; omega)
          intro v' w5 hown' hgrow _
          have HB5 := Lib.hid ((Hb4.out.alloc hs4 (.cells #[.slice p r.length pc] 59)).grown hgrow (by simp; omega) (fun q hq => by have := (Hown4.out.lt q hq).1; omega))
          have Hrows5 := Lib.hid (((Hrows4.out.block fun k _ _ hk => Below.heap_alloc _ _ _ hk).grown (Hown4.out.alloc _) hgrow).upto)
          have HG5 := Lib.hid (grown_blk hgrow (alloc_blk _ HG4.out) (fun e => by have := (Hown4.out.lt _ e.symm).1; omega))
          have Hown5 := Lib.hid hown'
          have hz5 := hgrow.size
          clear hown' hgrow
          go_wp2_with fail
          go_roundg (N - (j + 1))
          case measure => omega
          case rel => exact ⟨j + 1, _, rfl, by omega, by go_num, Hown5.out, Hrows5, HG5, HB5, by simp at hz5; omega⟩
      · obtain rfl : j = N := by omega
        have hown := Hown.out
        have hrows := Hrows.out
        rw [List.take_of_length_le (by rw [Hcl.out]; exact Nat.le_refl _)] at hrows
        have hd := DSM.of_own (M := M) (by rw [Hcl.out]; exact hown) hrows (Nat.le_refl _)
        have HF := Lib.hid (HC.out _ _ _ wr hd)
        clear hown hrows hd Hown Hrows
        go_wp2_with fail
        refine (HF.out).mono ?_
        rintro e w6 ⟨u, rfl, hdu, hb6⟩
        have Hdu := Lib.hid (hdu.mono (D := w.heap.size) (E := w6.heap.size) hs (Nat.le_refl _))
        have Hb6 := Lib.hid (Hb.out.trans (hb6.mono hs))
        clear hb6 hdu
        go_wp2_with fail
        go_returns
        exact ⟨⟨_, rfl, Hdu.out⟩, Hb6.out⟩
end Go.Proofs.YtlmiebeffdcfhaaGreat
namespace Go.Proofs.YtlmiebeffdcfhaaGreat
open Go.RowKit
def eqGB (x y : Gt) : Bool := x.k == y.k && (x.a == y.a && (x.b == y.b && x.c == y.c))
theorem eqGB_iff {x y : Gt} : eqGB x y = true ↔ x = y := by
  simp only [eqGB, Bool.and_eq_true, beq_iff_eq]
  exact ⟨fun ⟨h0, h1, h2, h3⟩ => by cases x; cases y; simp_all, fun h => by subst h; exact ⟨rfl, rfl, rfl, rfl⟩⟩
instance : DecidableEq Gt := fun x y => if h : eqGB x y = true then .isTrue (eqGB_iff.1 h) else .isFalse fun k => h (eqGB_iff.2 k)
attribute [local irreducible] World.cell?
end Go.Proofs.YtlmiebeffdcfhaaGreat
namespace Go.Proofs.YtlmiebeffdcfhaaGreat
open Go.RowKit
attribute [local irreducible] World.cell?
end Go.Proofs.YtlmiebeffdcfhaaGreat
namespace Go.Proofs.YtlmiebeffdcfhaaGreat
open Go.RowKit
attribute [local irreducible] World.cell?
end Go.Proofs.YtlmiebeffdcfhaaGreat
