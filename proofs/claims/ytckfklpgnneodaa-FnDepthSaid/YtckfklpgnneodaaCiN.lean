/- The model's ConcatCircuits. -/
import Derived.Test.YtckfklpgnneodaaBaseB15
import Derived.Test.YtckfklpgnneodaaApS
namespace Go.Proofs.Ytckfklpgnneodaa
open Go.RowKit
/-- ConcatCircuits. -/
def cjB (n : Int) (L : List Gt) (m : Int) (M : List Gt) : Bool := ciB n L && (ciB m M && (decide (n = m) && ciB n (L ++ M)))
def cjN (n : Int) (L : List Gt) (m : Int) (M : List Gt) : Int := if cjB n L m M then n else 0
def cjL (n : Int) (L : List Gt) (m : Int) (M : List Gt) : List Gt := if cjB n L m M then L ++ M else []
theorem CB2.alloc {w w1 : World} {a b : Nat} {n m : Int} {v u : Value} {o : Obj} (h : CB2 w a b n m v u w1) : CB2 w a b n m v u (w1.alloc o) :=
  CB2.below h ((Below.refl _ _).alloc (Nat.le_refl _) o)
theorem CB2.set {w w1 : World} {a b g p : Nat} {n m : Int} {v u x : Value} (h : CB2 w a b n m v u w1) (ha : a ≠ g) (hb : b ≠ g) (hg : w.heap.size ≤ g) : CB2 w a b n m v u (w1.setCell ⟨g, p, none⟩ x) :=
  let ⟨a0, a1, b0, b1, z, z', l⟩ := h
  ⟨cell_set a0 ha, cell_set a1 ha, cell_set b0 hb, cell_set b1 hb, by simpa [World.setCell] using z, by simpa [World.setCell] using z', l.setCell (p := ⟨g, p, none⟩) hg x⟩
/-- An empty row in a block of its own. -/
theorem own_empty {w : World} {base e : Nat} {ty : TypeId} {size : Nat} (h : w.heap[e]? = some (.cells #[] ty (0, 0))) (hb : base ≤ e) : w.ownsRow base ty size (.slice (some ⟨e, 0, none⟩) 0 0) 0 [] :=
  ⟨by simp, .inr ⟨e, 0, #[], rfl, hb, h, Nat.le_refl _, by unfold maxLen; omega, by simp, by simp⟩⟩
attribute [local irreducible] World.cell?
set_option maxRecDepth 100000 in
set_option maxHeartbeats 12800000 in
theorem sconcat (A C : Nat) (n m : Int) (va vb : Value) (L M : List Gt) (w : World) (hva : gtE.Sl w A va L) (hvb : gtE.Sl w C vb M) (hLM : L.length + M.length ≤ 1048576) :
    Calls Try.prog 12 #[.agg #[.int .i64 n, va], .agg #[.int .i64 m, vb]] w fun e w' => (∃ r, e = .returned (.tuple #[.agg #[.int .i64 (cjN n L m M), r], .bool (cjB n L m M)]) ∧ gtE.Sl w' w.heap.size r (cjL n L m M)) ∧ Below w.heap.size w w' := by
  obtain ⟨i0, hi, hz0, hz1, hz2⟩ := info_parts infoG3
  unfold cjN cjL
  obtain ⟨T, hT⟩ : ∃ T, T = cjB n L m M := ⟨_, rfl⟩
  rw [← hT]
  have HT := Lib.hid (hT.trans (show cjB n L m M = (ciB n L && (ciB m M && (decide (n = m) && ciB n (L ++ M)))) from rfl))
  clear hT
  have hL : L.length ≤ 1048576 := by omega
  have hM : M.length ≤ 1048576 := by omega
  obtain ⟨pa, ca, rfl, -, -⟩ := id hva
  obtain ⟨pb, cb, rfl, -, -⟩ := id hvb
  have hb0 : Below w.heap.size w (((w.alloc (.cells #[.int .i64 n, .slice pa L.length ca] 26)).alloc (.cells #[.int .i64 m, .slice pb M.length cb] 26)).alloc (.cells #[.int .i64 0, .slice none 0 0] 26)) := by go_grown
  have hsz0 : (((w.alloc (.cells #[.int .i64 n, .slice pa L.length ca] 26)).alloc (.cells #[.int .i64 m, .slice pb M.length cb] 26)).alloc (.cells #[.int .i64 0, .slice none 0 0] 26)).heap.size = w.heap.size + 3 := by simp
  have HX := Lib.hid (show (((w.alloc (.cells #[.int .i64 n, .slice pa L.length ca] 26)).alloc (.cells #[.int .i64 m, .slice pb M.length cb] 26)).alloc (.cells #[.int .i64 0, .slice none 0 0] 26)).heap[w.heap.size]? = some (.cells #[.int .i64 n, .slice pa L.length ca] 26) by exact alloc_blk _ (alloc_blk _ (heap_alloc_new w _)))
  have HY := Lib.hid (show (((w.alloc (.cells #[.int .i64 n, .slice pa L.length ca] 26)).alloc (.cells #[.int .i64 m, .slice pb M.length cb] 26)).alloc (.cells #[.int .i64 0, .slice none 0 0] 26)).heap[w.heap.size + 1]? = some (.cells #[.int .i64 m, .slice pb M.length cb] 26) by
    have h := heap_alloc_new (w.alloc (.cells #[.int .i64 n, .slice pa L.length ca] 26)) (.cells #[.int .i64 m, .slice pb M.length cb] 26)
    rw [show (w.alloc (.cells #[.int .i64 n, .slice pa L.length ca] 26)).heap.size = w.heap.size + 1 by simp] at h
    exact alloc_blk _ h)
  have HR := Lib.hid (show (((w.alloc (.cells #[.int .i64 n, .slice pa L.length ca] 26)).alloc (.cells #[.int .i64 m, .slice pb M.length cb] 26)).alloc (.cells #[.int .i64 0, .slice none 0 0] 26)).heap[w.heap.size + 2]? = some (.cells #[.int .i64 0, .slice none 0 0] 26) by
    have h := heap_alloc_new ((w.alloc (.cells #[.int .i64 n, .slice pa L.length ca] 26)).alloc (.cells #[.int .i64 m, .slice pb M.length cb] 26)) (.cells #[.int .i64 0, .slice none 0 0] 26)
    rw [show ((w.alloc (.cells #[.int .i64 n, .slice pa L.length ca] 26)).alloc (.cells #[.int .i64 m, .slice pb M.length cb] 26)).heap.size = w.heap.size + 2 by simp] at h
    exact h)
  have sz1 : ∀ o : Obj, ((((w.alloc (.cells #[.int .i64 n, .slice pa L.length ca] 26)).alloc (.cells #[.int .i64 m, .slice pb M.length cb] 26)).alloc (.cells #[.int .i64 0, .slice none 0 0] 26)).alloc o).heap.size = w.heap.size + 4 := fun o => by simp [hsz0]
  have FE0 := Lib.hid (show ((((w.alloc (.cells #[.int .i64 n, .slice pa L.length ca] 26)).alloc (.cells #[.int .i64 m, .slice pb M.length cb] 26)).alloc (.cells #[.int .i64 0, .slice none 0 0] 26)).alloc (.cells #[] 59)).heap[w.heap.size + 3]? = some (.cells #[] 59) by rw [← hsz0]; exact heap_alloc_new (((w.alloc (.cells #[.int .i64 n, .slice pa L.length ca] 26)).alloc (.cells #[.int .i64 m, .slice pb M.length cb] 26)).alloc (.cells #[.int .i64 0, .slice none 0 0] 26)) _)
  have FE1 := Lib.hid (alloc_blk (.cells #[.int .i64 0, .slice none 0 0] 26) FE0.out)
  have FO1 := Lib.hid (show (((((w.alloc (.cells #[.int .i64 n, .slice pa L.length ca] 26)).alloc (.cells #[.int .i64 m, .slice pb M.length cb] 26)).alloc (.cells #[.int .i64 0, .slice none 0 0] 26)).alloc (.cells #[] 59)).alloc (.cells #[.int .i64 0, .slice none 0 0] 26)).heap[w.heap.size + 4]? = some (.cells #[.int .i64 0, .slice none 0 0] 26) by rw [← sz1 (.cells #[] 59)]; exact heap_alloc_new _ _)
  have FO0 := Lib.hid (show ((((w.alloc (.cells #[.int .i64 n, .slice pa L.length ca] 26)).alloc (.cells #[.int .i64 m, .slice pb M.length cb] 26)).alloc (.cells #[.int .i64 0, .slice none 0 0] 26)).alloc (.cells #[.int .i64 0, .slice none 0 0] 26)).heap[w.heap.size + 3]? = some (.cells #[.int .i64 0, .slice none 0 0] 26) by rw [← hsz0]; exact heap_alloc_new (((w.alloc (.cells #[.int .i64 n, .slice pa L.length ca] 26)).alloc (.cells #[.int .i64 m, .slice pb M.length cb] 26)).alloc (.cells #[.int .i64 0, .slice none 0 0] 26)) _)
  have FO2 := Lib.hid (alloc_blk (.cells #[] 59) FO0.out)
  have FE2 := Lib.hid (show (((((w.alloc (.cells #[.int .i64 n, .slice pa L.length ca] 26)).alloc (.cells #[.int .i64 m, .slice pb M.length cb] 26)).alloc (.cells #[.int .i64 0, .slice none 0 0] 26)).alloc (.cells #[.int .i64 0, .slice none 0 0] 26)).alloc (.cells #[] 59)).heap[w.heap.size + 4]? = some (.cells #[] 59) by rw [← sz1 (.cells #[.int .i64 0, .slice none 0 0] 26)]; exact heap_alloc_new _ _)
  have Hva := Lib.hid (hva.below hb0)
  have Hvb0 := Lib.hid (hvb.below hb0)
  obtain ⟨c0, c1⟩ := blk_cells2 HX.out
  obtain ⟨d0, d1⟩ := blk_cells2 HY.out
  have hxl := lt_of_block HX.out
  have hyl := lt_of_block HY.out
  have hS : CB2 w w.heap.size (w.heap.size + 1) n m (.slice pa L.length ca) (.slice pb M.length cb) (((w.alloc (.cells #[.int .i64 n, .slice pa L.length ca] 26)).alloc (.cells #[.int .i64 m, .slice pb M.length cb] 26)).alloc (.cells #[.int .i64 0, .slice none 0 0] 26)) := ⟨c0, c1, d0, d1, hxl, hyl, hb0⟩
  have H1 := Lib.hid (fun W (h : gtE.Sl W A (.slice pa L.length ca) L) => svalidC A n _ L W h hL)
  have H2 := Lib.hid (fun W (h : gtE.Sl W C (.slice pb M.length cb) M) => svalidC C m _ M W h hM)
  have H3 := Lib.hid (fun W v (h : gtE.Sl W (w.heap.size + 3) v (L ++ M)) => svalidC (w.heap.size + 3) n v (L ++ M) W h (by rw [List.length_append]; omega))
  go_enter Try.func12, Try.ntmps12
  go_upto_region 1 with fail
  go_cut [6] from 7 to 16 (fun o wx => ∃ O v5, o = .pointer (some ⟨O, 0, none⟩) ∧ w.heap.size + 3 ≤ O ∧ Hid (wx.heap[O]? = some (.cells #[.int .i64 n, v5] 26 (0, 0))) ∧ Hid (gtE.Sl wx (w.heap.size + 3) v5 (L ++ M)) ∧ Hid (Below (((w.alloc (.cells #[.int .i64 n, .slice pa L.length ca] 26)).alloc (.cells #[.int .i64 m, .slice pb M.length cb] 26)).alloc (.cells #[.int .i64 0, .slice none 0 0] 26)).heap.size (((w.alloc (.cells #[.int .i64 n, .slice pa L.length ca] 26)).alloc (.cells #[.int .i64 m, .slice pb M.length cb] 26)).alloc (.cells #[.int .i64 0, .slice none 0 0] 26)) wx))
  case first =>
    go_region_held3 (fun w' => w'.cell? ⟨w.heap.size, 0, none⟩ = some (.int .i64 n) ∧ w'.cell? ⟨w.heap.size, 1, none⟩ = some (.slice pa L.length ca) ∧ w'.cell? ⟨w.heap.size + 1, 0, none⟩ = some (.int .i64 m) ∧ w'.cell? ⟨w.heap.size + 1, 1, none⟩ = some (.slice pb M.length cb) ∧ w.heap.size < w'.heap.size ∧ w.heap.size + 1 < w'.heap.size ∧ Below w.heap.size w w') (first | (show CB2 _ _ _ _ _ _ _ _; (with_reducible exact hS.drew)) | (show CB2 _ _ _ _ _ _ _ _; (with_reducible exact (CB2.alloc hS).drew)) | (show CB2 _ _ _ _ _ _ _ _; (with_reducible exact (CB2.alloc (CB2.alloc hS)).drew)) | (show CB2 _ _ _ _ _ _ _ _; exact (CB2.alloc hS).drew) | (show CB2 _ _ _ _ _ _ _ _; exact (CB2.alloc (CB2.alloc hS)).drew) | (show CB2 _ _ _ _ _ _ _ _; (with_reducible exact hS5)) | (show CB2 _ _ _ _ _ _ _ _; (with_reducible exact hS3)) | (show CB2 _ _ _ _ _ _ _ _; (with_reducible exact CB2.alloc hS5)) | (show CB2 _ _ _ _ _ _ _ _; (with_reducible exact CB2.alloc hS3)) | (show CB2 _ _ _ _ _ _ _ _; (with_reducible refine CB2.set (CB2.set ?_ (by omega) (by omega) (by omega)) (by omega) (by omega) (by omega)); first | (with_reducible exact hS5) | (with_reducible exact CB2.alloc hS5)))
      (first
        | (refine step_append_sl (E := gtE) _ (by rfl) _ _ _ (by rfl) (w.heap.size + 3) i0 (.agg #[.int .i64 0, .int .i64 0, .int .i64 0, .int .i64 0]) 32 Try.underlying24 hi hz0 hz1 hz2 rfl (by decide) (.slice (some ⟨w.heap.size + 3, 0, none⟩) 0 0) 0 [] ?a1 ?a2 A (.slice pa L.length ca) L ?a3 ?a4 ?a5 ?a6 ?a7 ?_; (case a1 => go_simp); (case a2 => exact own_empty FE0.out (by omega)); (case a3 => go_simp); (case a4 => exact (show gtE.Sl (((((w.alloc (.cells #[.int .i64 n, .slice pa L.length ca] 26)).alloc (.cells #[.int .i64 m, .slice pb M.length cb] 26)).alloc (.cells #[.int .i64 0, .slice none 0 0] 26)).alloc (.cells #[] 59))).drew A _ L from Hva.out.below (by go_grown))); (case a5 => (unfold maxLen; (try simp only [List.length_nil]); omega)); (case a6 => omega); (case a7 => (first | omega | (simp; done) | (simp; omega))); intro v3 w3 hown3 hgrow3 hat3; have hG3 : World.grownBy (((((w.alloc (.cells #[.int .i64 n, .slice pa L.length ca] 26)).alloc (.cells #[.int .i64 m, .slice pb M.length cb] 26)).alloc (.cells #[.int .i64 0, .slice none 0 0] 26)).alloc (.cells #[] 59))).drew w3 _ := hgrow3; have hb3 : Below (((w.alloc (.cells #[.int .i64 n, .slice pa L.length ca] 26)).alloc (.cells #[.int .i64 m, .slice pb M.length cb] 26)).alloc (.cells #[.int .i64 0, .slice none 0 0] 26)).heap.size (((w.alloc (.cells #[.int .i64 n, .slice pa L.length ca] 26)).alloc (.cells #[.int .i64 m, .slice pb M.length cb] 26)).alloc (.cells #[.int .i64 0, .slice none 0 0] 26)) w3 := (show Below (((w.alloc (.cells #[.int .i64 n, .slice pa L.length ca] 26)).alloc (.cells #[.int .i64 m, .slice pb M.length cb] 26)).alloc (.cells #[.int .i64 0, .slice none 0 0] 26)).heap.size (((w.alloc (.cells #[.int .i64 n, .slice pa L.length ca] 26)).alloc (.cells #[.int .i64 m, .slice pb M.length cb] 26)).alloc (.cells #[.int .i64 0, .slice none 0 0] 26)) (((((w.alloc (.cells #[.int .i64 n, .slice pa L.length ca] 26)).alloc (.cells #[.int .i64 m, .slice pb M.length cb] 26)).alloc (.cells #[.int .i64 0, .slice none 0 0] 26)).alloc (.cells #[] 59))).drew by go_grown).grown hG3 (by first | omega | (simp; done) | (simp; omega)) (fun q hq => by have h : w.heap.size + 3 = q := Option.some.inj hq; have h2 : (((w.alloc (.cells #[.int .i64 n, .slice pa L.length ca] 26)).alloc (.cells #[.int .i64 m, .slice pb M.length cb] 26)).alloc (.cells #[.int .i64 0, .slice none 0 0] 26)).heap.size = w.heap.size + 3 := hsz0; omega); have hS3 := CB2.below hS hb3; have hs3 := hb3.size; have Hown3 := Lib.hid hown3; have Hvb3 := Lib.hid (Hvb0.out.below hb3))
        | (refine step_append_sl (E := gtE) _ (by rfl) _ _ _ (by rfl) (w.heap.size + 3) i0 (.agg #[.int .i64 0, .int .i64 0, .int .i64 0, .int .i64 0]) 32 Try.underlying24 hi hz0 hz1 hz2 rfl (by decide) (.slice (some ⟨w.heap.size + 3, 0, none⟩) 0 0) 0 [] ?a1 ?a2 A (.slice pa L.length ca) L ?a3 ?a4 ?a5 ?a6 ?a7 ?_; (case a1 => go_simp); (case a2 => exact own_empty FE1.out (by omega)); (case a3 => go_simp); (case a4 => exact (show gtE.Sl ((((((w.alloc (.cells #[.int .i64 n, .slice pa L.length ca] 26)).alloc (.cells #[.int .i64 m, .slice pb M.length cb] 26)).alloc (.cells #[.int .i64 0, .slice none 0 0] 26)).alloc (.cells #[] 59)).alloc (.cells #[.int .i64 0, .slice none 0 0] 26))).drew A _ L from Hva.out.below (by go_grown))); (case a5 => (unfold maxLen; (try simp only [List.length_nil]); omega)); (case a6 => omega); (case a7 => (first | omega | (simp; done) | (simp; omega))); intro v3 w3 hown3 hgrow3 hat3; have hG3 : World.grownBy ((((((w.alloc (.cells #[.int .i64 n, .slice pa L.length ca] 26)).alloc (.cells #[.int .i64 m, .slice pb M.length cb] 26)).alloc (.cells #[.int .i64 0, .slice none 0 0] 26)).alloc (.cells #[] 59)).alloc (.cells #[.int .i64 0, .slice none 0 0] 26))).drew w3 _ := hgrow3; have hb3 : Below (((w.alloc (.cells #[.int .i64 n, .slice pa L.length ca] 26)).alloc (.cells #[.int .i64 m, .slice pb M.length cb] 26)).alloc (.cells #[.int .i64 0, .slice none 0 0] 26)).heap.size (((w.alloc (.cells #[.int .i64 n, .slice pa L.length ca] 26)).alloc (.cells #[.int .i64 m, .slice pb M.length cb] 26)).alloc (.cells #[.int .i64 0, .slice none 0 0] 26)) w3 := (show Below (((w.alloc (.cells #[.int .i64 n, .slice pa L.length ca] 26)).alloc (.cells #[.int .i64 m, .slice pb M.length cb] 26)).alloc (.cells #[.int .i64 0, .slice none 0 0] 26)).heap.size (((w.alloc (.cells #[.int .i64 n, .slice pa L.length ca] 26)).alloc (.cells #[.int .i64 m, .slice pb M.length cb] 26)).alloc (.cells #[.int .i64 0, .slice none 0 0] 26)) ((((((w.alloc (.cells #[.int .i64 n, .slice pa L.length ca] 26)).alloc (.cells #[.int .i64 m, .slice pb M.length cb] 26)).alloc (.cells #[.int .i64 0, .slice none 0 0] 26)).alloc (.cells #[] 59)).alloc (.cells #[.int .i64 0, .slice none 0 0] 26))).drew by go_grown).grown hG3 (by first | omega | (simp; done) | (simp; omega)) (fun q hq => by have h : w.heap.size + 3 = q := Option.some.inj hq; have h2 : (((w.alloc (.cells #[.int .i64 n, .slice pa L.length ca] 26)).alloc (.cells #[.int .i64 m, .slice pb M.length cb] 26)).alloc (.cells #[.int .i64 0, .slice none 0 0] 26)).heap.size = w.heap.size + 3 := hsz0; omega); have hS3 := CB2.below hS hb3; have hs3 := hb3.size; have Hown3 := Lib.hid hown3; have Hvb3 := Lib.hid (Hvb0.out.below hb3); have HO3 := Lib.hid (grown_blk hG3 FO1.out (by intro h; have h1 := Option.some.inj h; first | omega | (simp at h1; done) | (simp at h1; omega))); have hv3 : v3.ownBlock ≠ some (w.heap.size + 4) := (fun h => by rcases hat3 with q | q <;> (rw [h] at q; have := Option.some.inj q; first | omega | (simp at this; done) | (simp at this; omega))))
        | (refine step_append_sl (E := gtE) _ (by rfl) _ _ _ (by rfl) (w.heap.size + 3) i0 (.agg #[.int .i64 0, .int .i64 0, .int .i64 0, .int .i64 0]) 32 Try.underlying24 hi hz0 hz1 hz2 rfl (by decide) (.slice (some ⟨w.heap.size + 4, 0, none⟩) 0 0) 0 [] ?a1 ?a2 A (.slice pa L.length ca) L ?a3 ?a4 ?a5 ?a6 ?a7 ?_; (case a1 => go_simp); (case a2 => exact own_empty FE2.out (by omega)); (case a3 => go_simp); (case a4 => exact (show gtE.Sl ((((((w.alloc (.cells #[.int .i64 n, .slice pa L.length ca] 26)).alloc (.cells #[.int .i64 m, .slice pb M.length cb] 26)).alloc (.cells #[.int .i64 0, .slice none 0 0] 26)).alloc (.cells #[.int .i64 0, .slice none 0 0] 26)).alloc (.cells #[] 59))).drew A _ L from Hva.out.below (by go_grown))); (case a5 => (unfold maxLen; (try simp only [List.length_nil]); omega)); (case a6 => omega); (case a7 => (first | omega | (simp; done) | (simp; omega))); intro v3 w3 hown3 hgrow3 hat3; have hG3 : World.grownBy ((((((w.alloc (.cells #[.int .i64 n, .slice pa L.length ca] 26)).alloc (.cells #[.int .i64 m, .slice pb M.length cb] 26)).alloc (.cells #[.int .i64 0, .slice none 0 0] 26)).alloc (.cells #[.int .i64 0, .slice none 0 0] 26)).alloc (.cells #[] 59))).drew w3 _ := hgrow3; have hb3 : Below (((w.alloc (.cells #[.int .i64 n, .slice pa L.length ca] 26)).alloc (.cells #[.int .i64 m, .slice pb M.length cb] 26)).alloc (.cells #[.int .i64 0, .slice none 0 0] 26)).heap.size (((w.alloc (.cells #[.int .i64 n, .slice pa L.length ca] 26)).alloc (.cells #[.int .i64 m, .slice pb M.length cb] 26)).alloc (.cells #[.int .i64 0, .slice none 0 0] 26)) w3 := (show Below (((w.alloc (.cells #[.int .i64 n, .slice pa L.length ca] 26)).alloc (.cells #[.int .i64 m, .slice pb M.length cb] 26)).alloc (.cells #[.int .i64 0, .slice none 0 0] 26)).heap.size (((w.alloc (.cells #[.int .i64 n, .slice pa L.length ca] 26)).alloc (.cells #[.int .i64 m, .slice pb M.length cb] 26)).alloc (.cells #[.int .i64 0, .slice none 0 0] 26)) ((((((w.alloc (.cells #[.int .i64 n, .slice pa L.length ca] 26)).alloc (.cells #[.int .i64 m, .slice pb M.length cb] 26)).alloc (.cells #[.int .i64 0, .slice none 0 0] 26)).alloc (.cells #[.int .i64 0, .slice none 0 0] 26)).alloc (.cells #[] 59))).drew by go_grown).grown hG3 (by first | omega | (simp; done) | (simp; omega)) (fun q hq => by have h : w.heap.size + 4 = q := Option.some.inj hq; have h2 : (((w.alloc (.cells #[.int .i64 n, .slice pa L.length ca] 26)).alloc (.cells #[.int .i64 m, .slice pb M.length cb] 26)).alloc (.cells #[.int .i64 0, .slice none 0 0] 26)).heap.size = w.heap.size + 3 := hsz0; omega); have hS3 := CB2.below hS hb3; have hs3 := hb3.size; have Hown3 := Lib.hid hown3; have Hvb3 := Lib.hid (Hvb0.out.below hb3); have HO3 := Lib.hid (grown_blk hG3 FO2.out (by intro h; have h1 := Option.some.inj h; first | omega | (simp at h1; done) | (simp at h1; omega))); have hv3 : v3.ownBlock ≠ some (w.heap.size + 3) := (fun h => by rcases hat3 with q | q <;> (rw [h] at q; have := Option.some.inj q; first | omega | (simp at this; done) | (simp at this; omega))))
        | (refine step_append_sl (E := gtE) _ (by rfl) _ _ _ (by rfl) (w.heap.size + 3) i0 (.agg #[.int .i64 0, .int .i64 0, .int .i64 0, .int .i64 0]) 32 Try.underlying24 hi hz0 hz1 hz2 rfl (by decide) v3 (0 + L.length) ([] ++ gtE.flat L) ?a1 ?a2 C (.slice pb M.length cb) M ?a3 ?a4 ?a5 ?a6 ?a7 ?_; (case a1 => go_simp); (case a2 => exact (Hown3.out.alloc _)); (case a3 => go_simp); (case a4 => exact (show gtE.Sl (w3.alloc (.cells #[.int .i64 0, .slice none 0 0] 26)) C _ M from Hvb3.out.below (by go_grown))); (case a5 => (unfold maxLen; (try simp only [List.length_nil]); omega)); (case a6 => omega); (case a7 => (first | omega | (simp; done) | (simp; omega))); intro v5 w5 hown5 hgrow5 hat5; have hG5 := hgrow5; have hv5 : ∀ k, v5.ownBlock = some k → k ≠ w3.heap.size := (fun k hk e => by subst e; rw [hk] at hat5; rcases hat5 with q | q; (· exact absurd (Hown3.out.lt _ q.symm).2 (Nat.lt_irrefl _)); (· have q1 := Option.some.inj q; first | omega | (simp at q1; done) | (simp at q1; omega))); have hb5 : Below (((w.alloc (.cells #[.int .i64 n, .slice pa L.length ca] 26)).alloc (.cells #[.int .i64 m, .slice pb M.length cb] 26)).alloc (.cells #[.int .i64 0, .slice none 0 0] 26)).heap.size (((w.alloc (.cells #[.int .i64 n, .slice pa L.length ca] 26)).alloc (.cells #[.int .i64 m, .slice pb M.length cb] 26)).alloc (.cells #[.int .i64 0, .slice none 0 0] 26)) w5 := (show Below (((w.alloc (.cells #[.int .i64 n, .slice pa L.length ca] 26)).alloc (.cells #[.int .i64 m, .slice pb M.length cb] 26)).alloc (.cells #[.int .i64 0, .slice none 0 0] 26)).heap.size (((w.alloc (.cells #[.int .i64 n, .slice pa L.length ca] 26)).alloc (.cells #[.int .i64 m, .slice pb M.length cb] 26)).alloc (.cells #[.int .i64 0, .slice none 0 0] 26)) (w3.alloc (.cells #[.int .i64 0, .slice none 0 0] 26)) by go_grown).grown hG5 (by first | omega | (simp; done) | (simp; omega)) (fun q hq => by have := (Hown3.out.lt q hq).1; omega); have hS5 := CB2.below hS hb5; have hs5 := hb5.size; have hown5' := hown5; rw [List.nil_append, ← gtE.flat_app, Nat.zero_add] at hown5'; have Hown5 := Lib.hid hown5'; (obtain ⟨p5, c5, rfl⟩ : ∃ p c, v5 = .slice p (L.length + M.length) c := (by rcases hown5'.2 with ⟨rfl, h⟩ | ⟨g, cap, cur, rfl, _⟩; (· exact ⟨none, 0, by rw [h]⟩); (· exact ⟨_, _, rfl⟩))); have HO5 := Lib.hid (grown_blk hG5 (heap_alloc_new w3 (.cells #[.int .i64 0, .slice none 0 0] 26)) (fun e => by have := (Hown3.out.lt _ e.symm).2; omega)); obtain ⟨q0, q1⟩ := blk_cells2 HO5.out; have fO5 := fun o => free_at HO5.out o; have hOl5 := lt_of_block HO5.out)
        | (have hO3 : w3.heap[w.heap.size + 4]? = some (.cells #[.int .i64 0, .slice none 0 0] 26) := HO3.out; refine step_append_sl (E := gtE) _ (by rfl) _ _ _ (by rfl) (w.heap.size + 3) i0 (.agg #[.int .i64 0, .int .i64 0, .int .i64 0, .int .i64 0]) 32 Try.underlying24 hi hz0 hz1 hz2 rfl (by decide) v3 (0 + L.length) ([] ++ gtE.flat L) ?a1 ?a2 C (.slice pb M.length cb) M ?a3 ?a4 ?a5 ?a6 ?a7 ?_; (case a1 => go_simp); (case a2 => exact Hown3.out); (case a3 => go_simp); (case a4 => exact (show gtE.Sl w3 C _ M from Hvb3.out.below (by go_grown))); (case a5 => (unfold maxLen; (try simp only [List.length_nil]); omega)); (case a6 => omega); (case a7 => (first | omega | (simp; done) | (simp; omega))); intro v5 w5 hown5 hgrow5 hat5; have hG5 := hgrow5; have hv5 : ∀ k, v5.ownBlock = some k → k ≠ w.heap.size + 4 := (fun k hk e => by subst e; rw [hk] at hat5; have z3 := lt_of_block HO3.out; rcases hat5 with q | q; (· exact hv3 q.symm); (· have q1 := Option.some.inj q; first | omega | (simp at q1; done) | (simp at q1; omega))); have hb5 : Below (((w.alloc (.cells #[.int .i64 n, .slice pa L.length ca] 26)).alloc (.cells #[.int .i64 m, .slice pb M.length cb] 26)).alloc (.cells #[.int .i64 0, .slice none 0 0] 26)).heap.size (((w.alloc (.cells #[.int .i64 n, .slice pa L.length ca] 26)).alloc (.cells #[.int .i64 m, .slice pb M.length cb] 26)).alloc (.cells #[.int .i64 0, .slice none 0 0] 26)) w5 := (show Below (((w.alloc (.cells #[.int .i64 n, .slice pa L.length ca] 26)).alloc (.cells #[.int .i64 m, .slice pb M.length cb] 26)).alloc (.cells #[.int .i64 0, .slice none 0 0] 26)).heap.size (((w.alloc (.cells #[.int .i64 n, .slice pa L.length ca] 26)).alloc (.cells #[.int .i64 m, .slice pb M.length cb] 26)).alloc (.cells #[.int .i64 0, .slice none 0 0] 26)) w3 by go_grown).grown hG5 (by first | omega | (simp; done) | (simp; omega)) (fun q hq => by have := (Hown3.out.lt q hq).1; omega); have hS5 := CB2.below hS hb5; have hs5 := hb5.size; have hown5' := hown5; rw [List.nil_append, ← gtE.flat_app, Nat.zero_add] at hown5'; have Hown5 := Lib.hid hown5'; (obtain ⟨p5, c5, rfl⟩ : ∃ p c, v5 = .slice p (L.length + M.length) c := (by rcases hown5'.2 with ⟨rfl, h⟩ | ⟨g, cap, cur, rfl, _⟩; (· exact ⟨none, 0, by rw [h]⟩); (· exact ⟨_, _, rfl⟩))); have HO5 := Lib.hid (grown_blk hG5 HO3.out (fun e => hv3 e.symm)); obtain ⟨q0, q1⟩ := blk_cells2 HO5.out; have fO5 := fun o => free_at HO5.out o; have hOl5 := lt_of_block HO5.out)
        | (have hO3 : w3.heap[w.heap.size + 3]? = some (.cells #[.int .i64 0, .slice none 0 0] 26) := HO3.out; refine step_append_sl (E := gtE) _ (by rfl) _ _ _ (by rfl) (w.heap.size + 3) i0 (.agg #[.int .i64 0, .int .i64 0, .int .i64 0, .int .i64 0]) 32 Try.underlying24 hi hz0 hz1 hz2 rfl (by decide) v3 (0 + L.length) ([] ++ gtE.flat L) ?a1 ?a2 C (.slice pb M.length cb) M ?a3 ?a4 ?a5 ?a6 ?a7 ?_; (case a1 => go_simp); (case a2 => exact Hown3.out); (case a3 => go_simp); (case a4 => exact (show gtE.Sl w3 C _ M from Hvb3.out.below (by go_grown))); (case a5 => (unfold maxLen; (try simp only [List.length_nil]); omega)); (case a6 => omega); (case a7 => (first | omega | (simp; done) | (simp; omega))); intro v5 w5 hown5 hgrow5 hat5; have hG5 := hgrow5; have hv5 : ∀ k, v5.ownBlock = some k → k ≠ w.heap.size + 3 := (fun k hk e => by subst e; rw [hk] at hat5; have z3 := lt_of_block HO3.out; rcases hat5 with q | q; (· exact hv3 q.symm); (· have q1 := Option.some.inj q; first | omega | (simp at q1; done) | (simp at q1; omega))); have hb5 : Below (((w.alloc (.cells #[.int .i64 n, .slice pa L.length ca] 26)).alloc (.cells #[.int .i64 m, .slice pb M.length cb] 26)).alloc (.cells #[.int .i64 0, .slice none 0 0] 26)).heap.size (((w.alloc (.cells #[.int .i64 n, .slice pa L.length ca] 26)).alloc (.cells #[.int .i64 m, .slice pb M.length cb] 26)).alloc (.cells #[.int .i64 0, .slice none 0 0] 26)) w5 := (show Below (((w.alloc (.cells #[.int .i64 n, .slice pa L.length ca] 26)).alloc (.cells #[.int .i64 m, .slice pb M.length cb] 26)).alloc (.cells #[.int .i64 0, .slice none 0 0] 26)).heap.size (((w.alloc (.cells #[.int .i64 n, .slice pa L.length ca] 26)).alloc (.cells #[.int .i64 m, .slice pb M.length cb] 26)).alloc (.cells #[.int .i64 0, .slice none 0 0] 26)) w3 by go_grown).grown hG5 (by first | omega | (simp; done) | (simp; omega)) (fun q hq => by have := (Hown3.out.lt q hq).1; omega); have hS5 := CB2.below hS hb5; have hs5 := hb5.size; have hown5' := hown5; rw [List.nil_append, ← gtE.flat_app, Nat.zero_add] at hown5'; have Hown5 := Lib.hid hown5'; (obtain ⟨p5, c5, rfl⟩ : ∃ p c, v5 = .slice p (L.length + M.length) c := (by rcases hown5'.2 with ⟨rfl, h⟩ | ⟨g, cap, cur, rfl, _⟩; (· exact ⟨none, 0, by rw [h]⟩); (· exact ⟨_, _, rfl⟩))); have HO5 := Lib.hid (grown_blk hG5 HO3.out (fun e => hv3 e.symm)); obtain ⟨q0, q1⟩ := blk_cells2 HO5.out; have fO5 := fun o => free_at HO5.out o; have hOl5 := lt_of_block HO5.out)
        | (refine step_append_sl (E := gtE) _ (by rfl) _ _ _ (by rfl) (w.heap.size + 3) i0 (.agg #[.int .i64 0, .int .i64 0, .int .i64 0, .int .i64 0]) 32 Try.underlying24 hi hz0 hz1 hz2 rfl (by decide) v3 (0 + L.length) ([] ++ gtE.flat L) ?a1 ?a2 C (.slice pb M.length cb) M ?a3 ?a4 ?a5 ?a6 ?a7 ?_; (case a1 => go_simp); (case a2 => exact Hown3.out); (case a3 => go_simp); (case a4 => exact (show gtE.Sl w3 C _ M from Hvb3.out.below (by go_grown))); (case a5 => (unfold maxLen; (try simp only [List.length_nil]); omega)); (case a6 => omega); (case a7 => (first | omega | (simp; done) | (simp; omega))); intro v5 w5 hown5 hgrow5 hat5; have hG5 := hgrow5; have hb5 : Below (((w.alloc (.cells #[.int .i64 n, .slice pa L.length ca] 26)).alloc (.cells #[.int .i64 m, .slice pb M.length cb] 26)).alloc (.cells #[.int .i64 0, .slice none 0 0] 26)).heap.size (((w.alloc (.cells #[.int .i64 n, .slice pa L.length ca] 26)).alloc (.cells #[.int .i64 m, .slice pb M.length cb] 26)).alloc (.cells #[.int .i64 0, .slice none 0 0] 26)) w5 := (show Below (((w.alloc (.cells #[.int .i64 n, .slice pa L.length ca] 26)).alloc (.cells #[.int .i64 m, .slice pb M.length cb] 26)).alloc (.cells #[.int .i64 0, .slice none 0 0] 26)).heap.size (((w.alloc (.cells #[.int .i64 n, .slice pa L.length ca] 26)).alloc (.cells #[.int .i64 m, .slice pb M.length cb] 26)).alloc (.cells #[.int .i64 0, .slice none 0 0] 26)) w3 by go_grown).grown hG5 (by first | omega | (simp; done) | (simp; omega)) (fun q hq => by have := (Hown3.out.lt q hq).1; omega); have hS5 := CB2.below hS hb5; have hs5 := hb5.size; have hown5' := hown5; rw [List.nil_append, ← gtE.flat_app, Nat.zero_add] at hown5'; have Hown5 := Lib.hid hown5'; (obtain ⟨p5, c5, rfl⟩ : ∃ p c, v5 = .slice p (L.length + M.length) c := (by rcases hown5'.2 with ⟨rfl, h⟩ | ⟨g, cap, cur, rfl, _⟩; (· exact ⟨none, 0, by rw [h]⟩); (· exact ⟨_, _, rfl⟩))))
      )
    all_goals go_wp2_with fail
    all_goals go_meet
    all_goals have hsl5 : gtE.Sl w5 (w.heap.size + 3) (.slice p5 (L.length + M.length) c5) (L ++ M) := Enc.Sl.of_own (E := gtE) (by rw [List.length_append]; exact Hown5.out)
    all_goals first
      | exact ⟨_, _, rfl, by omega, Lib.hid (heap_alloc_new w5 _), Lib.hid (hsl5.below ((Below.refl _ _).alloc (Nat.le_refl _) _)), Lib.hid (hb5.alloc hs5 _)⟩
      | (refine ⟨_, _, rfl, by omega, Lib.hid (set2_at HO5.out), Lib.hid (Enc.Sl.of_own (E := gtE) (by rw [List.length_append]; exact row_set1 (row_set1 Hown5.out hv5) hv5)), Lib.hid ?_⟩; refine Below.setCell (Below.setCell hb5 ?_ _) ?_ _ <;> (dsimp only; omega))
  case rest =>
    obtain ⟨O, v5, rfl, hO3, HO, Hsl, Hbx⟩ := hcut
    obtain ⟨p5, c5, hv5, -, -⟩ := id Hsl.out
    rw [List.length_append] at hv5
    subst hv5
    have HX := Lib.hid (below_blk Hbx.out (by omega) HX.out)
    have HY := Lib.hid (below_blk Hbx.out (by omega) HY.out)
    have HR := Lib.hid (below_blk Hbx.out (by omega) HR.out)
    have Hb := Lib.hid (below_nx hb0 Hbx.out)
    have Hva := Lib.hid (Hva.out.below Hbx.out)
    have Hvb := Lib.hid (Hvb0.out.below Hbx.out)
    clear FE0 FE1 FE2 FO0 FO1 FO2 hS Hbx sz1 Hvb0 c0 c1 d0 d1 hxl hyl
    obtain ⟨c0, c1⟩ := blk_cells2 HX.out
    obtain ⟨d0, d1⟩ := blk_cells2 HY.out
    obtain ⟨o0, o1⟩ := blk_cells2 HO.out
    have hxl := lt_of_block HX.out
    have hyl := lt_of_block HY.out
    have hol := lt_of_block HO.out
    cases h1 : ciB n L with
    | false =>
      rw [h1] at H1
      obtain rfl : T = false := HT.out.trans (by rw [h1]; rfl)
      clear h1
      go_wp2_with fail
      refine (H1.out _ Hva.out).mono ?_
      rintro e w1 ⟨rfl, hb1⟩
      have HX := Lib.hid (below_blk hb1 (lt_of_block HX.out) HX.out)
      have HY := Lib.hid (below_blk hb1 (lt_of_block HY.out) HY.out)
      have HR := Lib.hid (below_blk hb1 (lt_of_block HR.out) HR.out)
      have HO := Lib.hid (below_blk hb1 (lt_of_block HO.out) HO.out)
      have Hva := Lib.hid (Hva.out.below hb1)
      have Hvb := Lib.hid (Hvb.out.below hb1)
      have Hsl := Lib.hid (Hsl.out.below hb1)
      have Hb := Lib.hid (below_nx Hb.out hb1)
      clear hb1
      clear c0 c1 hxl d0 d1 hyl o0 o1 hol
      obtain ⟨c0, c1⟩ := blk_cells2 HX.out
      obtain ⟨d0, d1⟩ := blk_cells2 HY.out
      obtain ⟨o0, o1⟩ := blk_cells2 HO.out
      have hxl := lt_of_block HX.out
      have hyl := lt_of_block HY.out
      have hol := lt_of_block HO.out
      obtain ⟨r0, r1⟩ := blk_cells2 HR.out
      have fR := fun o => free_at HR.out o
      have hrl := lt_of_block HR.out
      have hs1 := Hb.out.size
      go_wp2_with fail
      obtain ⟨k0, k1⟩ := blk_cells2 (set2_at (u0 := .int .i64 0) (u1 := .slice none 0 0) HR.out)
      refine bodyPost_ret (v := .tuple #[.agg #[.int .i64 0, .slice none 0 0], .bool false]) (by simp only [results, Try.results12]; simp [go_sem, k0, k1]) rfl ⟨⟨_, rfl, Enc.Sl.nil⟩, ?_⟩
      have := Hb.out
      go_grown
    | true =>
      rw [h1] at H1
      have K1 := Lib.hid h1
      clear h1
      cases h2 : ciB m M with
      | false =>
        rw [h2] at H2
        obtain rfl : T = false := HT.out.trans (by rw [h2]; simp)
        clear h2
        go_wp2_with fail
        refine (H1.out _ Hva.out).mono ?_
        rintro e w1 ⟨rfl, hb1⟩
        have HX := Lib.hid (below_blk hb1 (lt_of_block HX.out) HX.out)
        have HY := Lib.hid (below_blk hb1 (lt_of_block HY.out) HY.out)
        have HR := Lib.hid (below_blk hb1 (lt_of_block HR.out) HR.out)
        have HO := Lib.hid (below_blk hb1 (lt_of_block HO.out) HO.out)
        have Hva := Lib.hid (Hva.out.below hb1)
        have Hvb := Lib.hid (Hvb.out.below hb1)
        have Hsl := Lib.hid (Hsl.out.below hb1)
        have Hb := Lib.hid (below_nx Hb.out hb1)
        clear hb1
        clear c0 c1 hxl d0 d1 hyl o0 o1 hol
        obtain ⟨c0, c1⟩ := blk_cells2 HX.out
        obtain ⟨d0, d1⟩ := blk_cells2 HY.out
        obtain ⟨o0, o1⟩ := blk_cells2 HO.out
        have hxl := lt_of_block HX.out
        have hyl := lt_of_block HY.out
        have hol := lt_of_block HO.out
        go_wp2_with fail
        refine (H2.out _ Hvb.out).mono ?_
        rintro e w2 ⟨rfl, hb2⟩
        have HX := Lib.hid (below_blk hb2 (lt_of_block HX.out) HX.out)
        have HY := Lib.hid (below_blk hb2 (lt_of_block HY.out) HY.out)
        have HR := Lib.hid (below_blk hb2 (lt_of_block HR.out) HR.out)
        have HO := Lib.hid (below_blk hb2 (lt_of_block HO.out) HO.out)
        have Hva := Lib.hid (Hva.out.below hb2)
        have Hvb := Lib.hid (Hvb.out.below hb2)
        have Hsl := Lib.hid (Hsl.out.below hb2)
        have Hb := Lib.hid (below_nx Hb.out hb2)
        clear hb2
        clear c0 c1 hxl d0 d1 hyl o0 o1 hol
        obtain ⟨c0, c1⟩ := blk_cells2 HX.out
        obtain ⟨d0, d1⟩ := blk_cells2 HY.out
        obtain ⟨o0, o1⟩ := blk_cells2 HO.out
        have hxl := lt_of_block HX.out
        have hyl := lt_of_block HY.out
        have hol := lt_of_block HO.out
        obtain ⟨r0, r1⟩ := blk_cells2 HR.out
        have fR := fun o => free_at HR.out o
        have hrl := lt_of_block HR.out
        have hs1 := Hb.out.size
        go_wp2_with fail
        obtain ⟨k0, k1⟩ := blk_cells2 (set2_at (u0 := .int .i64 0) (u1 := .slice none 0 0) HR.out)
        refine bodyPost_ret (v := .tuple #[.agg #[.int .i64 0, .slice none 0 0], .bool false]) (by simp only [results, Try.results12]; simp [go_sem, k0, k1]) rfl ⟨⟨_, rfl, Enc.Sl.nil⟩, ?_⟩
        have := Hb.out
        go_grown
      | true =>
        rw [h2] at H2
        have K2 := Lib.hid h2
        clear h2
        by_cases hnm : n = m
        · have hd : (n != m) = false := by rw [hnm]; simp
          have Hnm := Lib.hid (decide_eq_true hnm)
          clear hnm
          cases h3 : ciB n (L ++ M) with
          | false =>
            rw [h3] at H3
            obtain rfl : T = false := HT.out.trans (by rw [h3]; simp)
            clear h3
            go_wp2_with fail
            refine (H1.out _ Hva.out).mono ?_
            rintro e w1 ⟨rfl, hb1⟩
            have HX := Lib.hid (below_blk hb1 (lt_of_block HX.out) HX.out)
            have HY := Lib.hid (below_blk hb1 (lt_of_block HY.out) HY.out)
            have HR := Lib.hid (below_blk hb1 (lt_of_block HR.out) HR.out)
            have HO := Lib.hid (below_blk hb1 (lt_of_block HO.out) HO.out)
            have Hva := Lib.hid (Hva.out.below hb1)
            have Hvb := Lib.hid (Hvb.out.below hb1)
            have Hsl := Lib.hid (Hsl.out.below hb1)
            have Hb := Lib.hid (below_nx Hb.out hb1)
            clear hb1
            clear c0 c1 hxl d0 d1 hyl o0 o1 hol
            obtain ⟨c0, c1⟩ := blk_cells2 HX.out
            obtain ⟨d0, d1⟩ := blk_cells2 HY.out
            obtain ⟨o0, o1⟩ := blk_cells2 HO.out
            have hxl := lt_of_block HX.out
            have hyl := lt_of_block HY.out
            have hol := lt_of_block HO.out
            go_wp2_with fail
            refine (H2.out _ Hvb.out).mono ?_
            rintro e w2 ⟨rfl, hb2⟩
            have HX := Lib.hid (below_blk hb2 (lt_of_block HX.out) HX.out)
            have HY := Lib.hid (below_blk hb2 (lt_of_block HY.out) HY.out)
            have HR := Lib.hid (below_blk hb2 (lt_of_block HR.out) HR.out)
            have HO := Lib.hid (below_blk hb2 (lt_of_block HO.out) HO.out)
            have Hva := Lib.hid (Hva.out.below hb2)
            have Hvb := Lib.hid (Hvb.out.below hb2)
            have Hsl := Lib.hid (Hsl.out.below hb2)
            have Hb := Lib.hid (below_nx Hb.out hb2)
            clear hb2
            clear c0 c1 hxl d0 d1 hyl o0 o1 hol
            obtain ⟨c0, c1⟩ := blk_cells2 HX.out
            obtain ⟨d0, d1⟩ := blk_cells2 HY.out
            obtain ⟨o0, o1⟩ := blk_cells2 HO.out
            have hxl := lt_of_block HX.out
            have hyl := lt_of_block HY.out
            have hol := lt_of_block HO.out
            go_wp2_with fail
            refine (H3.out _ _ Hsl.out).mono ?_
            rintro e w3 ⟨rfl, hb3⟩
            have HX := Lib.hid (below_blk hb3 (lt_of_block HX.out) HX.out)
            have HY := Lib.hid (below_blk hb3 (lt_of_block HY.out) HY.out)
            have HR := Lib.hid (below_blk hb3 (lt_of_block HR.out) HR.out)
            have HO := Lib.hid (below_blk hb3 (lt_of_block HO.out) HO.out)
            have Hva := Lib.hid (Hva.out.below hb3)
            have Hvb := Lib.hid (Hvb.out.below hb3)
            have Hsl := Lib.hid (Hsl.out.below hb3)
            have Hb := Lib.hid (below_nx Hb.out hb3)
            clear hb3
            clear c0 c1 hxl d0 d1 hyl o0 o1 hol
            obtain ⟨c0, c1⟩ := blk_cells2 HX.out
            obtain ⟨d0, d1⟩ := blk_cells2 HY.out
            obtain ⟨o0, o1⟩ := blk_cells2 HO.out
            have hxl := lt_of_block HX.out
            have hyl := lt_of_block HY.out
            have hol := lt_of_block HO.out
            obtain ⟨r0, r1⟩ := blk_cells2 HR.out
            have fR := fun o => free_at HR.out o
            have hrl := lt_of_block HR.out
            have hs1 := Hb.out.size
            go_wp2_with fail
            obtain ⟨k0, k1⟩ := blk_cells2 (set2_at (u0 := .int .i64 0) (u1 := .slice none 0 0) HR.out)
            refine bodyPost_ret (v := .tuple #[.agg #[.int .i64 0, .slice none 0 0], .bool false]) (by simp only [results, Try.results12]; simp [go_sem, k0, k1]) rfl ⟨⟨_, rfl, Enc.Sl.nil⟩, ?_⟩
            have := Hb.out
            go_grown
          | true =>
            rw [h3] at H3
            obtain rfl : T = true := HT.out.trans (by rw [K1.out, K2.out, h3, Hnm.out]; rfl)
            clear h3
            go_wp2_with fail
            refine (H1.out _ Hva.out).mono ?_
            rintro e w1 ⟨rfl, hb1⟩
            have HX := Lib.hid (below_blk hb1 (lt_of_block HX.out) HX.out)
            have HY := Lib.hid (below_blk hb1 (lt_of_block HY.out) HY.out)
            have HR := Lib.hid (below_blk hb1 (lt_of_block HR.out) HR.out)
            have HO := Lib.hid (below_blk hb1 (lt_of_block HO.out) HO.out)
            have Hva := Lib.hid (Hva.out.below hb1)
            have Hvb := Lib.hid (Hvb.out.below hb1)
            have Hsl := Lib.hid (Hsl.out.below hb1)
            have Hb := Lib.hid (below_nx Hb.out hb1)
            clear hb1
            clear c0 c1 hxl d0 d1 hyl o0 o1 hol
            obtain ⟨c0, c1⟩ := blk_cells2 HX.out
            obtain ⟨d0, d1⟩ := blk_cells2 HY.out
            obtain ⟨o0, o1⟩ := blk_cells2 HO.out
            have hxl := lt_of_block HX.out
            have hyl := lt_of_block HY.out
            have hol := lt_of_block HO.out
            go_wp2_with fail
            refine (H2.out _ Hvb.out).mono ?_
            rintro e w2 ⟨rfl, hb2⟩
            have HX := Lib.hid (below_blk hb2 (lt_of_block HX.out) HX.out)
            have HY := Lib.hid (below_blk hb2 (lt_of_block HY.out) HY.out)
            have HR := Lib.hid (below_blk hb2 (lt_of_block HR.out) HR.out)
            have HO := Lib.hid (below_blk hb2 (lt_of_block HO.out) HO.out)
            have Hva := Lib.hid (Hva.out.below hb2)
            have Hvb := Lib.hid (Hvb.out.below hb2)
            have Hsl := Lib.hid (Hsl.out.below hb2)
            have Hb := Lib.hid (below_nx Hb.out hb2)
            clear hb2
            clear c0 c1 hxl d0 d1 hyl o0 o1 hol
            obtain ⟨c0, c1⟩ := blk_cells2 HX.out
            obtain ⟨d0, d1⟩ := blk_cells2 HY.out
            obtain ⟨o0, o1⟩ := blk_cells2 HO.out
            have hxl := lt_of_block HX.out
            have hyl := lt_of_block HY.out
            have hol := lt_of_block HO.out
            go_wp2_with fail
            refine (H3.out _ _ Hsl.out).mono ?_
            rintro e w3 ⟨rfl, hb3⟩
            have HX := Lib.hid (below_blk hb3 (lt_of_block HX.out) HX.out)
            have HY := Lib.hid (below_blk hb3 (lt_of_block HY.out) HY.out)
            have HR := Lib.hid (below_blk hb3 (lt_of_block HR.out) HR.out)
            have HO := Lib.hid (below_blk hb3 (lt_of_block HO.out) HO.out)
            have Hva := Lib.hid (Hva.out.below hb3)
            have Hvb := Lib.hid (Hvb.out.below hb3)
            have Hsl := Lib.hid (Hsl.out.below hb3)
            have Hb := Lib.hid (below_nx Hb.out hb3)
            clear hb3
            clear c0 c1 hxl d0 d1 hyl o0 o1 hol
            obtain ⟨c0, c1⟩ := blk_cells2 HX.out
            obtain ⟨d0, d1⟩ := blk_cells2 HY.out
            obtain ⟨o0, o1⟩ := blk_cells2 HO.out
            have hxl := lt_of_block HX.out
            have hyl := lt_of_block HY.out
            have hol := lt_of_block HO.out
            obtain ⟨r0, r1⟩ := blk_cells2 HR.out
            have fR := fun o => free_at HR.out o
            have hrl := lt_of_block HR.out
            have hs1 := Hb.out.size
            go_wp2_with fail
            obtain ⟨k0, k1⟩ := blk_cells2 (set2_at (u0 := .int .i64 n) (u1 := .slice p5 (L.length + M.length) c5) HR.out)
            refine bodyPost_ret (v := .tuple #[.agg #[.int .i64 n, .slice p5 (L.length + M.length) c5], .bool true]) (by simp only [results, Try.results12]; simp [go_sem, k0, k1]) rfl ⟨⟨_, rfl, ?_⟩, ?_⟩
            · exact (sl_set1 (sl_set1 Hsl.out (by omega)) (by omega)).mono (by omega)
            · have := Hb.out
              go_grown
        · have hd : (n != m) = true := by simpa using hnm
          obtain rfl : T = false := HT.out.trans (by rw [decide_eq_false hnm]; simp)
          clear hnm
          go_wp2_with fail
          refine (H1.out _ Hva.out).mono ?_
          rintro e w1 ⟨rfl, hb1⟩
          have HX := Lib.hid (below_blk hb1 (lt_of_block HX.out) HX.out)
          have HY := Lib.hid (below_blk hb1 (lt_of_block HY.out) HY.out)
          have HR := Lib.hid (below_blk hb1 (lt_of_block HR.out) HR.out)
          have HO := Lib.hid (below_blk hb1 (lt_of_block HO.out) HO.out)
          have Hva := Lib.hid (Hva.out.below hb1)
          have Hvb := Lib.hid (Hvb.out.below hb1)
          have Hsl := Lib.hid (Hsl.out.below hb1)
          have Hb := Lib.hid (below_nx Hb.out hb1)
          clear hb1
          clear c0 c1 hxl d0 d1 hyl o0 o1 hol
          obtain ⟨c0, c1⟩ := blk_cells2 HX.out
          obtain ⟨d0, d1⟩ := blk_cells2 HY.out
          obtain ⟨o0, o1⟩ := blk_cells2 HO.out
          have hxl := lt_of_block HX.out
          have hyl := lt_of_block HY.out
          have hol := lt_of_block HO.out
          go_wp2_with fail
          refine (H2.out _ Hvb.out).mono ?_
          rintro e w2 ⟨rfl, hb2⟩
          have HX := Lib.hid (below_blk hb2 (lt_of_block HX.out) HX.out)
          have HY := Lib.hid (below_blk hb2 (lt_of_block HY.out) HY.out)
          have HR := Lib.hid (below_blk hb2 (lt_of_block HR.out) HR.out)
          have HO := Lib.hid (below_blk hb2 (lt_of_block HO.out) HO.out)
          have Hva := Lib.hid (Hva.out.below hb2)
          have Hvb := Lib.hid (Hvb.out.below hb2)
          have Hsl := Lib.hid (Hsl.out.below hb2)
          have Hb := Lib.hid (below_nx Hb.out hb2)
          clear hb2
          clear c0 c1 hxl d0 d1 hyl o0 o1 hol
          obtain ⟨c0, c1⟩ := blk_cells2 HX.out
          obtain ⟨d0, d1⟩ := blk_cells2 HY.out
          obtain ⟨o0, o1⟩ := blk_cells2 HO.out
          have hxl := lt_of_block HX.out
          have hyl := lt_of_block HY.out
          have hol := lt_of_block HO.out
          obtain ⟨r0, r1⟩ := blk_cells2 HR.out
          have fR := fun o => free_at HR.out o
          have hrl := lt_of_block HR.out
          have hs1 := Hb.out.size
          go_wp2_with fail
          obtain ⟨k0, k1⟩ := blk_cells2 (set2_at (u0 := .int .i64 0) (u1 := .slice none 0 0) HR.out)
          refine bodyPost_ret (v := .tuple #[.agg #[.int .i64 0, .slice none 0 0], .bool false]) (by simp only [results, Try.results12]; simp [go_sem, k0, k1]) rfl ⟨⟨_, rfl, Enc.Sl.nil⟩, ?_⟩
          have := Hb.out
          go_grown
end Go.Proofs.Ytckfklpgnneodaa
